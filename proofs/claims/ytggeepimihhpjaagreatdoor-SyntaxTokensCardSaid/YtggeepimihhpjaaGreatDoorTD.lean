/- item. -/
import Derived.Test.YtggeepimihhpjaaGreatDoorTC
namespace Go.Proofs.YtggeepimihhpjaaGreatDoor
open Go.RowKit Go.Shelf Go.Lib Sl Fr Lx
namespace Sy
set_option linter.unusedVariables false
set_option linter.unusedSimpArgs false

theorem BoxO.boxL {W : World} {b : Nat} {z : Array Value} {T : TypeId} (h : BoxO W b z T) : BoxL W b z := ⟨h.lt, fun i v hv => ⟨h.cell hv, h.frozen i⟩⟩
theorem start2X (w : World) (x z : Array Value) (T0 T : TypeId) : BoxO ((w.alloc (.cells x T0)).alloc (.cells z T)) w.heap.size x T0 ∧ BoxO ((w.alloc (.cells x T0)).alloc (.cells z T)) (w.heap.size + 1) z T ∧ Below w.heap.size w ((w.alloc (.cells x T0)).alloc (.cells z T)) := by
  obtain ⟨h1, h2⟩ := startO w x T0
  obtain ⟨h3, h4⟩ := startO (w.alloc (.cells x T0)) z T
  refine ⟨h1.keep h4, ?_, h2.trans (h4.mono h2.size)⟩
  have : (w.alloc (.cells x T0)).heap.size = w.heap.size + 1 := by simp
  rwa [this] at h3

set_option maxRecDepth 100000 in
set_option maxHeartbeats 16000000 in
theorem item_pr (i : ItemT) : PrI i := by
  intro hok base qb tb t w cs h hir
  obtain ⟨kd, nm, wd, dp, it, ea, eb, ec, rl, o_, args, ports⟩ := i
  obtain ⟨hwd, hdp, hit, hea, heb, hec, hrl, har, hal, hpl⟩ := hok
  obtain ⟨Aa, ca, Ab, cb, Ac, cc, An, cn, Ap, cp, rfl, ra, rb, rc, hn1, hn2, hp1, hp2⟩ := hir
  replace ra : ER w (fun b => b < base) ea (eC ea Aa ca) := ra
  replace rb : ER w (fun b => b < base) eb (eC eb Ab cb) := rb
  replace rc : ER w (fun b => b < base) ec (eC ec Ac cc) := rc
  replace hn2 : FR w (fun b => b < base) An (numsC args) := hn2
  replace hp2 : FR w (fun b => b < base) Ap (bindsC ports) := hp2
  replace hwd : I64 wd.n := hwd
  replace hdp : I64 dp.n := hdp
  replace hit : I64 it.n := hit
  replace hrl : I64 rl.n := hrl
  replace hea : OkE ea := hea
  replace heb : OkE eb := heb
  replace hec : OkE ec := hec
  replace hal : args.length ≤ 281474976710656 := hal
  replace hpl : ports.length ≤ 281474976710656 := hpl
  replace har : ∀ x ∈ args, I64 x.n := har
  unfold iC
  dsimp only
  have hmf : ∀ (fn : Fn) (first cap : Array Value) (w : World), (Instr.makeFunc fn first cap).run Tryz.prog w = .ok (.func fn first cap) w := fun _ _ _ _ => rfl
  obtain ⟨m2, mR, bA⟩ := start2X w #[.pointer (some ⟨qb, 0, none⟩)] #[.int .i64 kd, .string ⟨nm.toArray⟩, .int .i64 wd.n, .string ⟨wd.p.toArray⟩, .int .i64 dp.n, .string ⟨dp.p.toArray⟩, .int .i64 it.n, .string ⟨it.p.toArray⟩, .int .i64 ea.op, .string ⟨ea.nm.toArray⟩, .int .i64 ea.k.n, .string ⟨ea.k.p.toArray⟩, .int .i64 ea.w.n, .string ⟨ea.w.p.toArray⟩, .slice Aa ea.args.length ca, .int .i64 eb.op, .string ⟨eb.nm.toArray⟩, .int .i64 eb.k.n, .string ⟨eb.k.p.toArray⟩, .int .i64 eb.w.n, .string ⟨eb.w.p.toArray⟩, .slice Ab eb.args.length cb, .int .i64 ec.op, .string ⟨ec.nm.toArray⟩, .int .i64 ec.k.n, .string ⟨ec.k.p.toArray⟩, .int .i64 ec.w.n, .string ⟨ec.w.p.toArray⟩, .slice Ac ec.args.length cc, .int .i64 rl.kind, .string ⟨rl.from_.toArray⟩, .int .i64 rl.n, .string ⟨o_.toArray⟩, .slice An args.length cn, .slice Ap ports.length cp] 126 69
  have hX := h.below bA
  have hgX : GP w _ qb tb := GP.of_below bA
  have ra' := ER.grown (grown_below bA) (fun g e => by cases e) _ _ ra
  have rb' := ER.grown (grown_below bA) (fun g e => by cases e) _ _ rb
  have rc' := ER.grown (grown_below bA) (fun g e => by cases e) _ _ rc
  have hn' := hn2.grown (grown_below bA) (fun g e => by cases e)
  have hp' := hp2.grown (grown_below bA) (fun g e => by cases e)
  have hqw := h.lt
  have htw : ∀ g, tb = some g → g < w.heap.size := fun g e => (h.ht g e).2
  go_enter Tryz.func152, Tryz.ntmps152
  go_upto_region 1 with fail
  generalize hXe : (w.alloc (.cells #[.pointer (some ⟨qb, 0, none⟩)] 126)).alloc (.cells #[.int .i64 kd, .string ⟨nm.toArray⟩, .int .i64 wd.n, .string ⟨wd.p.toArray⟩, .int .i64 dp.n, .string ⟨dp.p.toArray⟩, .int .i64 it.n, .string ⟨it.p.toArray⟩, .int .i64 ea.op, .string ⟨ea.nm.toArray⟩, .int .i64 ea.k.n, .string ⟨ea.k.p.toArray⟩, .int .i64 ea.w.n, .string ⟨ea.w.p.toArray⟩, .slice Aa ea.args.length ca, .int .i64 eb.op, .string ⟨eb.nm.toArray⟩, .int .i64 eb.k.n, .string ⟨eb.k.p.toArray⟩, .int .i64 eb.w.n, .string ⟨eb.w.p.toArray⟩, .slice Ab eb.args.length cb, .int .i64 ec.op, .string ⟨ec.nm.toArray⟩, .int .i64 ec.k.n, .string ⟨ec.k.p.toArray⟩, .int .i64 ec.w.n, .string ⟨ec.w.p.toArray⟩, .slice Ac ec.args.length cc, .int .i64 rl.kind, .string ⟨rl.from_.toArray⟩, .int .i64 rl.n, .string ⟨o_.toArray⟩, .slice An args.length cn, .slice Ap ports.length cp] 69) = X at *
  clear hXe
  have d0 := m2.cell (i := 0) rfl
  have cI0 := mR.cell (i := 0) rfl
  have cI1 := mR.cell (i := 1) rfl
  have cI2 := mR.cell (i := 2) rfl
  have cI3 := mR.cell (i := 3) rfl
  have cI4 := mR.cell (i := 4) rfl
  have cI5 := mR.cell (i := 5) rfl
  have cI6 := mR.cell (i := 6) rfl
  have cI7 := mR.cell (i := 7) rfl
  have cI8 := mR.cell (i := 8) rfl
  have cI9 := mR.cell (i := 9) rfl
  have cI10 := mR.cell (i := 10) rfl
  have cI11 := mR.cell (i := 11) rfl
  have cI12 := mR.cell (i := 12) rfl
  have cI13 := mR.cell (i := 13) rfl
  have cI14 := mR.cell (i := 14) rfl
  have cI15 := mR.cell (i := 15) rfl
  have cI16 := mR.cell (i := 16) rfl
  have cI17 := mR.cell (i := 17) rfl
  have cI18 := mR.cell (i := 18) rfl
  have cI19 := mR.cell (i := 19) rfl
  have cI20 := mR.cell (i := 20) rfl
  have cI21 := mR.cell (i := 21) rfl
  have cI22 := mR.cell (i := 22) rfl
  have cI23 := mR.cell (i := 23) rfl
  have cI24 := mR.cell (i := 24) rfl
  have cI25 := mR.cell (i := 25) rfl
  have cI26 := mR.cell (i := 26) rfl
  have cI27 := mR.cell (i := 27) rfl
  have cI28 := mR.cell (i := 28) rfl
  have cI29 := mR.cell (i := 29) rfl
  have cI30 := mR.cell (i := 30) rfl
  have cI31 := mR.cell (i := 31) rfl
  have cI32 := mR.cell (i := 32) rfl
  have cI33 := mR.cell (i := 33) rfl
  have cI34 := mR.cell (i := 34) rfl
  have hl2 := m2.lt
  have hlR := mR.lt
  have HX := Lib.hid hX
  have HGX := Lib.hid hgX
  have HM2 := Lib.hid m2
  have HMR := Lib.hid mR
  have HRA := Lib.hid ra'
  have HRB := Lib.hid rb'
  have HRC := Lib.hid rc'
  have HRN := Lib.hid hn'
  have HRP := Lib.hid hp'
  clear hX hgX m2 mR ra ra' rb rb' rc rc' hn2 hn' hp2 hp' bA h
  by_cases hk1 : kd = 1
  · subst hk1
    have HF : Hid (itemX ⟨1, nm, wd, dp, it, ea, eb, ec, rl, o_, args, ports⟩ = seqO [some [105, 110, 32], some nm, some [58, 32], some (numX wd)]) := Lib.hid rfl
    cases hww : wr (seqO [some [105, 110, 32], some nm, some [58, 32], some (numX wd)]) t with
    | none =>
      have HC := Lib.hid (pg_no (write_new HX.out [.s [105, 110, 32], .s nm, .s [58, 32], .n wd] #[.iface 9 (.string ⟨#[105, 110, 32]⟩), .iface 9 (.string ⟨nm.toArray⟩), .iface 9 (.string ⟨#[58, 32]⟩), .iface 60 (.agg #[.int .i64 wd.n, .string ⟨wd.p.toArray⟩])] ⟨rfl, rfl, rfl, ⟨hwd, rfl⟩, trivial⟩ (by intro p hp; simp only [List.mem_cons, List.not_mem_nil, or_false] at hp; rcases hp with rfl | rfl | rfl | rfl <;> first | exact trivial | exact num_pr _ | exact prE _ | exact rule_pr _) 4 rfl (by omega) 20) hww)
      go_wp2_with (go_at_call 109; with_reducible refine HC.out.mono ?_; rintro e w9 ⟨rfl, hg9⟩)
      exact ⟨rfl, PG.of_no (by rw [HF.out]; exact hww) ((HGX.out).trans0 hg9)⟩
    | some t2 =>
      have HC := Lib.hid (pg_ok (write_new HX.out [.s [105, 110, 32], .s nm, .s [58, 32], .n wd] #[.iface 9 (.string ⟨#[105, 110, 32]⟩), .iface 9 (.string ⟨nm.toArray⟩), .iface 9 (.string ⟨#[58, 32]⟩), .iface 60 (.agg #[.int .i64 wd.n, .string ⟨wd.p.toArray⟩])] ⟨rfl, rfl, rfl, ⟨hwd, rfl⟩, trivial⟩ (by intro p hp; simp only [List.mem_cons, List.not_mem_nil, or_false] at hp; rcases hp with rfl | rfl | rfl | rfl <;> first | exact trivial | exact num_pr _ | exact prE _ | exact rule_pr _) 4 rfl (by omega) 20) hww)
      go_wp2_with (go_at_call 109; with_reducible refine HC.out.mono ?_; rintro e w9 ⟨rfl, tb9, hp9, ht9, hg9⟩)
      go_end0
      exact PG.of_ok (by rw [HF.out]; exact hww) ((HGX.out).trans0 hg9) hp9 (ht9.imp id fun e g eg => Nat.le_trans (HGX.out).size (e g eg))
  by_cases hk2 : kd = 2
  · subst hk2
    have HF : Hid (itemX ⟨2, nm, wd, dp, it, ea, eb, ec, rl, o_, args, ports⟩ = seqO [some [111, 117, 116, 32], some nm, some [58, 32], some (numX wd)]) := Lib.hid rfl
    cases hww : wr (seqO [some [111, 117, 116, 32], some nm, some [58, 32], some (numX wd)]) t with
    | none =>
      have HC := Lib.hid (pg_no (write_new HX.out [.s [111, 117, 116, 32], .s nm, .s [58, 32], .n wd] #[.iface 9 (.string ⟨#[111, 117, 116, 32]⟩), .iface 9 (.string ⟨nm.toArray⟩), .iface 9 (.string ⟨#[58, 32]⟩), .iface 60 (.agg #[.int .i64 wd.n, .string ⟨wd.p.toArray⟩])] ⟨rfl, rfl, rfl, ⟨hwd, rfl⟩, trivial⟩ (by intro p hp; simp only [List.mem_cons, List.not_mem_nil, or_false] at hp; rcases hp with rfl | rfl | rfl | rfl <;> first | exact trivial | exact num_pr _ | exact prE _ | exact rule_pr _) 4 rfl (by omega) 20) hww)
      go_wp2_with (go_at_call 109; with_reducible refine HC.out.mono ?_; rintro e w9 ⟨rfl, hg9⟩)
      exact ⟨rfl, PG.of_no (by rw [HF.out]; exact hww) ((HGX.out).trans0 hg9)⟩
    | some t2 =>
      have HC := Lib.hid (pg_ok (write_new HX.out [.s [111, 117, 116, 32], .s nm, .s [58, 32], .n wd] #[.iface 9 (.string ⟨#[111, 117, 116, 32]⟩), .iface 9 (.string ⟨nm.toArray⟩), .iface 9 (.string ⟨#[58, 32]⟩), .iface 60 (.agg #[.int .i64 wd.n, .string ⟨wd.p.toArray⟩])] ⟨rfl, rfl, rfl, ⟨hwd, rfl⟩, trivial⟩ (by intro p hp; simp only [List.mem_cons, List.not_mem_nil, or_false] at hp; rcases hp with rfl | rfl | rfl | rfl <;> first | exact trivial | exact num_pr _ | exact prE _ | exact rule_pr _) 4 rfl (by omega) 20) hww)
      go_wp2_with (go_at_call 109; with_reducible refine HC.out.mono ?_; rintro e w9 ⟨rfl, tb9, hp9, ht9, hg9⟩)
      go_end0
      exact PG.of_ok (by rw [HF.out]; exact hww) ((HGX.out).trans0 hg9) hp9 (ht9.imp id fun e g eg => Nat.le_trans (HGX.out).size (e g eg))
  by_cases hk3 : kd = 3
  · subst hk3
    have HF : Hid (itemX ⟨3, nm, wd, dp, it, ea, eb, ec, rl, o_, args, ports⟩ = seqO [some [99, 104, 97, 110, 32], some nm, some [58, 32], some (numX wd), some [32, 91], some (numX dp), some [93]]) := Lib.hid rfl
    cases hww : wr (seqO [some [99, 104, 97, 110, 32], some nm, some [58, 32], some (numX wd), some [32, 91], some (numX dp), some [93]]) t with
    | none =>
      have HC := Lib.hid (pg_no (write_new HX.out [.s [99, 104, 97, 110, 32], .s nm, .s [58, 32], .n wd, .s [32, 91], .n dp, .s [93]] #[.iface 9 (.string ⟨#[99, 104, 97, 110, 32]⟩), .iface 9 (.string ⟨nm.toArray⟩), .iface 9 (.string ⟨#[58, 32]⟩), .iface 60 (.agg #[.int .i64 wd.n, .string ⟨wd.p.toArray⟩]), .iface 9 (.string ⟨#[32, 91]⟩), .iface 60 (.agg #[.int .i64 dp.n, .string ⟨dp.p.toArray⟩]), .iface 9 (.string ⟨#[93]⟩)] ⟨rfl, rfl, rfl, ⟨hwd, rfl⟩, rfl, ⟨hdp, rfl⟩, rfl, trivial⟩ (by intro p hp; simp only [List.mem_cons, List.not_mem_nil, or_false] at hp; rcases hp with rfl | rfl | rfl | rfl | rfl | rfl | rfl <;> first | exact trivial | exact num_pr _ | exact prE _ | exact rule_pr _) 7 rfl (by omega) 20) hww)
      go_wp2_with (go_at_call 109; with_reducible refine HC.out.mono ?_; rintro e w9 ⟨rfl, hg9⟩)
      exact ⟨rfl, PG.of_no (by rw [HF.out]; exact hww) ((HGX.out).trans0 hg9)⟩
    | some t2 =>
      have HC := Lib.hid (pg_ok (write_new HX.out [.s [99, 104, 97, 110, 32], .s nm, .s [58, 32], .n wd, .s [32, 91], .n dp, .s [93]] #[.iface 9 (.string ⟨#[99, 104, 97, 110, 32]⟩), .iface 9 (.string ⟨nm.toArray⟩), .iface 9 (.string ⟨#[58, 32]⟩), .iface 60 (.agg #[.int .i64 wd.n, .string ⟨wd.p.toArray⟩]), .iface 9 (.string ⟨#[32, 91]⟩), .iface 60 (.agg #[.int .i64 dp.n, .string ⟨dp.p.toArray⟩]), .iface 9 (.string ⟨#[93]⟩)] ⟨rfl, rfl, rfl, ⟨hwd, rfl⟩, rfl, ⟨hdp, rfl⟩, rfl, trivial⟩ (by intro p hp; simp only [List.mem_cons, List.not_mem_nil, or_false] at hp; rcases hp with rfl | rfl | rfl | rfl | rfl | rfl | rfl <;> first | exact trivial | exact num_pr _ | exact prE _ | exact rule_pr _) 7 rfl (by omega) 20) hww)
      go_wp2_with (go_at_call 109; with_reducible refine HC.out.mono ?_; rintro e w9 ⟨rfl, tb9, hp9, ht9, hg9⟩)
      go_end0
      exact PG.of_ok (by rw [HF.out]; exact hww) ((HGX.out).trans0 hg9) hp9 (ht9.imp id fun e g eg => Nat.le_trans (HGX.out).size (e g eg))
  by_cases hk4 : kd = 4
  · subst hk4
    have HF : Hid (itemX ⟨4, nm, wd, dp, it, ea, eb, ec, rl, o_, args, ports⟩ = seqO [some [114, 101, 103, 32], some nm, some [58, 32], some (numX wd), some [32, 61, 32], some (numX it), some [32, 45, 62, 32], exprX ea, some [32], ruleX rl]) := Lib.hid rfl
    cases hww : wr (seqO [some [114, 101, 103, 32], some nm, some [58, 32], some (numX wd), some [32, 61, 32], some (numX it), some [32, 45, 62, 32], exprX ea, some [32], ruleX rl]) t with
    | none =>
      have HC := Lib.hid (pg_no (write_new HX.out [.s [114, 101, 103, 32], .s nm, .s [58, 32], .n wd, .s [32, 61, 32], .n it, .s [32, 45, 62, 32], .e ea, .s [32], .r rl] #[.iface 9 (.string ⟨#[114, 101, 103, 32]⟩), .iface 9 (.string ⟨nm.toArray⟩), .iface 9 (.string ⟨#[58, 32]⟩), .iface 60 (.agg #[.int .i64 wd.n, .string ⟨wd.p.toArray⟩]), .iface 9 (.string ⟨#[32, 61, 32]⟩), .iface 60 (.agg #[.int .i64 it.n, .string ⟨it.p.toArray⟩]), .iface 9 (.string ⟨#[32, 45, 62, 32]⟩), .iface 63 (.agg #[.int .i64 ea.op, .string ⟨ea.nm.toArray⟩, .int .i64 ea.k.n, .string ⟨ea.k.p.toArray⟩, .int .i64 ea.w.n, .string ⟨ea.w.p.toArray⟩, .slice Aa ea.args.length ca]), .iface 9 (.string ⟨#[32]⟩), .iface 65 (.agg #[.int .i64 rl.kind, .string ⟨rl.from_.toArray⟩, .int .i64 rl.n])] ⟨rfl, rfl, rfl, ⟨hwd, rfl⟩, rfl, ⟨hit, rfl⟩, rfl, ⟨hea, Aa, ca, rfl, HRA.out⟩, rfl, ⟨hrl, rfl⟩, trivial⟩ (by intro p hp; simp only [List.mem_cons, List.not_mem_nil, or_false] at hp; rcases hp with rfl | rfl | rfl | rfl | rfl | rfl | rfl | rfl | rfl | rfl <;> first | exact trivial | exact num_pr _ | exact prE _ | exact rule_pr _) 10 rfl (by omega) 20) hww)
      go_wp2_with (go_at_call 109; with_reducible refine HC.out.mono ?_; rintro e w9 ⟨rfl, hg9⟩)
      exact ⟨rfl, PG.of_no (by rw [HF.out]; exact hww) ((HGX.out).trans0 hg9)⟩
    | some t2 =>
      have HC := Lib.hid (pg_ok (write_new HX.out [.s [114, 101, 103, 32], .s nm, .s [58, 32], .n wd, .s [32, 61, 32], .n it, .s [32, 45, 62, 32], .e ea, .s [32], .r rl] #[.iface 9 (.string ⟨#[114, 101, 103, 32]⟩), .iface 9 (.string ⟨nm.toArray⟩), .iface 9 (.string ⟨#[58, 32]⟩), .iface 60 (.agg #[.int .i64 wd.n, .string ⟨wd.p.toArray⟩]), .iface 9 (.string ⟨#[32, 61, 32]⟩), .iface 60 (.agg #[.int .i64 it.n, .string ⟨it.p.toArray⟩]), .iface 9 (.string ⟨#[32, 45, 62, 32]⟩), .iface 63 (.agg #[.int .i64 ea.op, .string ⟨ea.nm.toArray⟩, .int .i64 ea.k.n, .string ⟨ea.k.p.toArray⟩, .int .i64 ea.w.n, .string ⟨ea.w.p.toArray⟩, .slice Aa ea.args.length ca]), .iface 9 (.string ⟨#[32]⟩), .iface 65 (.agg #[.int .i64 rl.kind, .string ⟨rl.from_.toArray⟩, .int .i64 rl.n])] ⟨rfl, rfl, rfl, ⟨hwd, rfl⟩, rfl, ⟨hit, rfl⟩, rfl, ⟨hea, Aa, ca, rfl, HRA.out⟩, rfl, ⟨hrl, rfl⟩, trivial⟩ (by intro p hp; simp only [List.mem_cons, List.not_mem_nil, or_false] at hp; rcases hp with rfl | rfl | rfl | rfl | rfl | rfl | rfl | rfl | rfl | rfl <;> first | exact trivial | exact num_pr _ | exact prE _ | exact rule_pr _) 10 rfl (by omega) 20) hww)
      go_wp2_with (go_at_call 109; with_reducible refine HC.out.mono ?_; rintro e w9 ⟨rfl, tb9, hp9, ht9, hg9⟩)
      go_end0
      exact PG.of_ok (by rw [HF.out]; exact hww) ((HGX.out).trans0 hg9) hp9 (ht9.imp id fun e g eg => Nat.le_trans (HGX.out).size (e g eg))
  by_cases hk5 : kd = 5
  · subst hk5
    have HF : Hid (itemX ⟨5, nm, wd, dp, it, ea, eb, ec, rl, o_, args, ports⟩ = seqO [some [119, 105, 114, 101, 32], some nm, some [58, 32], some (numX wd), some [32, 61, 32], exprX ea]) := Lib.hid rfl
    cases hww : wr (seqO [some [119, 105, 114, 101, 32], some nm, some [58, 32], some (numX wd), some [32, 61, 32], exprX ea]) t with
    | none =>
      have HC := Lib.hid (pg_no (write_new HX.out [.s [119, 105, 114, 101, 32], .s nm, .s [58, 32], .n wd, .s [32, 61, 32], .e ea] #[.iface 9 (.string ⟨#[119, 105, 114, 101, 32]⟩), .iface 9 (.string ⟨nm.toArray⟩), .iface 9 (.string ⟨#[58, 32]⟩), .iface 60 (.agg #[.int .i64 wd.n, .string ⟨wd.p.toArray⟩]), .iface 9 (.string ⟨#[32, 61, 32]⟩), .iface 63 (.agg #[.int .i64 ea.op, .string ⟨ea.nm.toArray⟩, .int .i64 ea.k.n, .string ⟨ea.k.p.toArray⟩, .int .i64 ea.w.n, .string ⟨ea.w.p.toArray⟩, .slice Aa ea.args.length ca])] ⟨rfl, rfl, rfl, ⟨hwd, rfl⟩, rfl, ⟨hea, Aa, ca, rfl, HRA.out⟩, trivial⟩ (by intro p hp; simp only [List.mem_cons, List.not_mem_nil, or_false] at hp; rcases hp with rfl | rfl | rfl | rfl | rfl | rfl <;> first | exact trivial | exact num_pr _ | exact prE _ | exact rule_pr _) 6 rfl (by omega) 20) hww)
      go_wp2_with (go_at_call 109; with_reducible refine HC.out.mono ?_; rintro e w9 ⟨rfl, hg9⟩)
      exact ⟨rfl, PG.of_no (by rw [HF.out]; exact hww) ((HGX.out).trans0 hg9)⟩
    | some t2 =>
      have HC := Lib.hid (pg_ok (write_new HX.out [.s [119, 105, 114, 101, 32], .s nm, .s [58, 32], .n wd, .s [32, 61, 32], .e ea] #[.iface 9 (.string ⟨#[119, 105, 114, 101, 32]⟩), .iface 9 (.string ⟨nm.toArray⟩), .iface 9 (.string ⟨#[58, 32]⟩), .iface 60 (.agg #[.int .i64 wd.n, .string ⟨wd.p.toArray⟩]), .iface 9 (.string ⟨#[32, 61, 32]⟩), .iface 63 (.agg #[.int .i64 ea.op, .string ⟨ea.nm.toArray⟩, .int .i64 ea.k.n, .string ⟨ea.k.p.toArray⟩, .int .i64 ea.w.n, .string ⟨ea.w.p.toArray⟩, .slice Aa ea.args.length ca])] ⟨rfl, rfl, rfl, ⟨hwd, rfl⟩, rfl, ⟨hea, Aa, ca, rfl, HRA.out⟩, trivial⟩ (by intro p hp; simp only [List.mem_cons, List.not_mem_nil, or_false] at hp; rcases hp with rfl | rfl | rfl | rfl | rfl | rfl <;> first | exact trivial | exact num_pr _ | exact prE _ | exact rule_pr _) 6 rfl (by omega) 20) hww)
      go_wp2_with (go_at_call 109; with_reducible refine HC.out.mono ?_; rintro e w9 ⟨rfl, tb9, hp9, ht9, hg9⟩)
      go_end0
      exact PG.of_ok (by rw [HF.out]; exact hww) ((HGX.out).trans0 hg9) hp9 (ht9.imp id fun e g eg => Nat.le_trans (HGX.out).size (e g eg))
  by_cases hk6 : kd = 6
  · subst hk6
    have HF : Hid (itemX ⟨6, nm, wd, dp, it, ea, eb, ec, rl, o_, args, ports⟩ = seqO [some [109, 101, 109, 32], some nm, some [58, 32], some (numX wd), some [32, 91], some (numX dp), some [93, 32, 105, 102, 32], exprX ea, some [32, 97, 116, 32], exprX eb, some [32, 61, 32], exprX ec, some [32], ruleX rl]) := Lib.hid rfl
    cases hww : wr (seqO [some [109, 101, 109, 32], some nm, some [58, 32], some (numX wd), some [32, 91], some (numX dp), some [93, 32, 105, 102, 32], exprX ea, some [32, 97, 116, 32], exprX eb, some [32, 61, 32], exprX ec, some [32], ruleX rl]) t with
    | none =>
      have HC := Lib.hid (pg_no (write_new HX.out [.s [109, 101, 109, 32], .s nm, .s [58, 32], .n wd, .s [32, 91], .n dp, .s [93, 32, 105, 102, 32], .e ea, .s [32, 97, 116, 32], .e eb, .s [32, 61, 32], .e ec, .s [32], .r rl] #[.iface 9 (.string ⟨#[109, 101, 109, 32]⟩), .iface 9 (.string ⟨nm.toArray⟩), .iface 9 (.string ⟨#[58, 32]⟩), .iface 60 (.agg #[.int .i64 wd.n, .string ⟨wd.p.toArray⟩]), .iface 9 (.string ⟨#[32, 91]⟩), .iface 60 (.agg #[.int .i64 dp.n, .string ⟨dp.p.toArray⟩]), .iface 9 (.string ⟨#[93, 32, 105, 102, 32]⟩), .iface 63 (.agg #[.int .i64 ea.op, .string ⟨ea.nm.toArray⟩, .int .i64 ea.k.n, .string ⟨ea.k.p.toArray⟩, .int .i64 ea.w.n, .string ⟨ea.w.p.toArray⟩, .slice Aa ea.args.length ca]), .iface 9 (.string ⟨#[32, 97, 116, 32]⟩), .iface 63 (.agg #[.int .i64 eb.op, .string ⟨eb.nm.toArray⟩, .int .i64 eb.k.n, .string ⟨eb.k.p.toArray⟩, .int .i64 eb.w.n, .string ⟨eb.w.p.toArray⟩, .slice Ab eb.args.length cb]), .iface 9 (.string ⟨#[32, 61, 32]⟩), .iface 63 (.agg #[.int .i64 ec.op, .string ⟨ec.nm.toArray⟩, .int .i64 ec.k.n, .string ⟨ec.k.p.toArray⟩, .int .i64 ec.w.n, .string ⟨ec.w.p.toArray⟩, .slice Ac ec.args.length cc]), .iface 9 (.string ⟨#[32]⟩), .iface 65 (.agg #[.int .i64 rl.kind, .string ⟨rl.from_.toArray⟩, .int .i64 rl.n])] ⟨rfl, rfl, rfl, ⟨hwd, rfl⟩, rfl, ⟨hdp, rfl⟩, rfl, ⟨hea, Aa, ca, rfl, HRA.out⟩, rfl, ⟨heb, Ab, cb, rfl, HRB.out⟩, rfl, ⟨hec, Ac, cc, rfl, HRC.out⟩, rfl, ⟨hrl, rfl⟩, trivial⟩ (by intro p hp; simp only [List.mem_cons, List.not_mem_nil, or_false] at hp; rcases hp with rfl | rfl | rfl | rfl | rfl | rfl | rfl | rfl | rfl | rfl | rfl | rfl | rfl | rfl <;> first | exact trivial | exact num_pr _ | exact prE _ | exact rule_pr _) 14 rfl (by omega) 20) hww)
      go_wp2_with (go_at_call 109; with_reducible refine HC.out.mono ?_; rintro e w9 ⟨rfl, hg9⟩)
      exact ⟨rfl, PG.of_no (by rw [HF.out]; exact hww) ((HGX.out).trans0 hg9)⟩
    | some t2 =>
      have HC := Lib.hid (pg_ok (write_new HX.out [.s [109, 101, 109, 32], .s nm, .s [58, 32], .n wd, .s [32, 91], .n dp, .s [93, 32, 105, 102, 32], .e ea, .s [32, 97, 116, 32], .e eb, .s [32, 61, 32], .e ec, .s [32], .r rl] #[.iface 9 (.string ⟨#[109, 101, 109, 32]⟩), .iface 9 (.string ⟨nm.toArray⟩), .iface 9 (.string ⟨#[58, 32]⟩), .iface 60 (.agg #[.int .i64 wd.n, .string ⟨wd.p.toArray⟩]), .iface 9 (.string ⟨#[32, 91]⟩), .iface 60 (.agg #[.int .i64 dp.n, .string ⟨dp.p.toArray⟩]), .iface 9 (.string ⟨#[93, 32, 105, 102, 32]⟩), .iface 63 (.agg #[.int .i64 ea.op, .string ⟨ea.nm.toArray⟩, .int .i64 ea.k.n, .string ⟨ea.k.p.toArray⟩, .int .i64 ea.w.n, .string ⟨ea.w.p.toArray⟩, .slice Aa ea.args.length ca]), .iface 9 (.string ⟨#[32, 97, 116, 32]⟩), .iface 63 (.agg #[.int .i64 eb.op, .string ⟨eb.nm.toArray⟩, .int .i64 eb.k.n, .string ⟨eb.k.p.toArray⟩, .int .i64 eb.w.n, .string ⟨eb.w.p.toArray⟩, .slice Ab eb.args.length cb]), .iface 9 (.string ⟨#[32, 61, 32]⟩), .iface 63 (.agg #[.int .i64 ec.op, .string ⟨ec.nm.toArray⟩, .int .i64 ec.k.n, .string ⟨ec.k.p.toArray⟩, .int .i64 ec.w.n, .string ⟨ec.w.p.toArray⟩, .slice Ac ec.args.length cc]), .iface 9 (.string ⟨#[32]⟩), .iface 65 (.agg #[.int .i64 rl.kind, .string ⟨rl.from_.toArray⟩, .int .i64 rl.n])] ⟨rfl, rfl, rfl, ⟨hwd, rfl⟩, rfl, ⟨hdp, rfl⟩, rfl, ⟨hea, Aa, ca, rfl, HRA.out⟩, rfl, ⟨heb, Ab, cb, rfl, HRB.out⟩, rfl, ⟨hec, Ac, cc, rfl, HRC.out⟩, rfl, ⟨hrl, rfl⟩, trivial⟩ (by intro p hp; simp only [List.mem_cons, List.not_mem_nil, or_false] at hp; rcases hp with rfl | rfl | rfl | rfl | rfl | rfl | rfl | rfl | rfl | rfl | rfl | rfl | rfl | rfl <;> first | exact trivial | exact num_pr _ | exact prE _ | exact rule_pr _) 14 rfl (by omega) 20) hww)
      go_wp2_with (go_at_call 109; with_reducible refine HC.out.mono ?_; rintro e w9 ⟨rfl, tb9, hp9, ht9, hg9⟩)
      go_end0
      exact PG.of_ok (by rw [HF.out]; exact hww) ((HGX.out).trans0 hg9) hp9 (ht9.imp id fun e g eg => Nat.le_trans (HGX.out).size (e g eg))
  by_cases hk7 : kd = 7
  · subst hk7
    have HF : Hid (itemX ⟨7, nm, wd, dp, it, ea, eb, ec, rl, o_, args, ports⟩ = seqO [some [116, 97, 107, 101, 32], some nm, some [32, 105, 102, 32], exprX ea]) := Lib.hid rfl
    cases hww : wr (seqO [some [116, 97, 107, 101, 32], some nm, some [32, 105, 102, 32], exprX ea]) t with
    | none =>
      have HC := Lib.hid (pg_no (write_new HX.out [.s [116, 97, 107, 101, 32], .s nm, .s [32, 105, 102, 32], .e ea] #[.iface 9 (.string ⟨#[116, 97, 107, 101, 32]⟩), .iface 9 (.string ⟨nm.toArray⟩), .iface 9 (.string ⟨#[32, 105, 102, 32]⟩), .iface 63 (.agg #[.int .i64 ea.op, .string ⟨ea.nm.toArray⟩, .int .i64 ea.k.n, .string ⟨ea.k.p.toArray⟩, .int .i64 ea.w.n, .string ⟨ea.w.p.toArray⟩, .slice Aa ea.args.length ca])] ⟨rfl, rfl, rfl, ⟨hea, Aa, ca, rfl, HRA.out⟩, trivial⟩ (by intro p hp; simp only [List.mem_cons, List.not_mem_nil, or_false] at hp; rcases hp with rfl | rfl | rfl | rfl <;> first | exact trivial | exact num_pr _ | exact prE _ | exact rule_pr _) 4 rfl (by omega) 20) hww)
      go_wp2_with (go_at_call 109; with_reducible refine HC.out.mono ?_; rintro e w9 ⟨rfl, hg9⟩)
      exact ⟨rfl, PG.of_no (by rw [HF.out]; exact hww) ((HGX.out).trans0 hg9)⟩
    | some t2 =>
      have HC := Lib.hid (pg_ok (write_new HX.out [.s [116, 97, 107, 101, 32], .s nm, .s [32, 105, 102, 32], .e ea] #[.iface 9 (.string ⟨#[116, 97, 107, 101, 32]⟩), .iface 9 (.string ⟨nm.toArray⟩), .iface 9 (.string ⟨#[32, 105, 102, 32]⟩), .iface 63 (.agg #[.int .i64 ea.op, .string ⟨ea.nm.toArray⟩, .int .i64 ea.k.n, .string ⟨ea.k.p.toArray⟩, .int .i64 ea.w.n, .string ⟨ea.w.p.toArray⟩, .slice Aa ea.args.length ca])] ⟨rfl, rfl, rfl, ⟨hea, Aa, ca, rfl, HRA.out⟩, trivial⟩ (by intro p hp; simp only [List.mem_cons, List.not_mem_nil, or_false] at hp; rcases hp with rfl | rfl | rfl | rfl <;> first | exact trivial | exact num_pr _ | exact prE _ | exact rule_pr _) 4 rfl (by omega) 20) hww)
      go_wp2_with (go_at_call 109; with_reducible refine HC.out.mono ?_; rintro e w9 ⟨rfl, tb9, hp9, ht9, hg9⟩)
      go_end0
      exact PG.of_ok (by rw [HF.out]; exact hww) ((HGX.out).trans0 hg9) hp9 (ht9.imp id fun e g eg => Nat.le_trans (HGX.out).size (e g eg))
  by_cases hk8 : kd = 8
  · subst hk8
    have HF : Hid (itemX ⟨8, nm, wd, dp, it, ea, eb, ec, rl, o_, args, ports⟩ = seqO [some [112, 117, 116, 32], some nm, some [32, 105, 102, 32], exprX ea, some [32, 61, 32], exprX eb]) := Lib.hid rfl
    cases hww : wr (seqO [some [112, 117, 116, 32], some nm, some [32, 105, 102, 32], exprX ea, some [32, 61, 32], exprX eb]) t with
    | none =>
      have HC := Lib.hid (pg_no (write_new HX.out [.s [112, 117, 116, 32], .s nm, .s [32, 105, 102, 32], .e ea, .s [32, 61, 32], .e eb] #[.iface 9 (.string ⟨#[112, 117, 116, 32]⟩), .iface 9 (.string ⟨nm.toArray⟩), .iface 9 (.string ⟨#[32, 105, 102, 32]⟩), .iface 63 (.agg #[.int .i64 ea.op, .string ⟨ea.nm.toArray⟩, .int .i64 ea.k.n, .string ⟨ea.k.p.toArray⟩, .int .i64 ea.w.n, .string ⟨ea.w.p.toArray⟩, .slice Aa ea.args.length ca]), .iface 9 (.string ⟨#[32, 61, 32]⟩), .iface 63 (.agg #[.int .i64 eb.op, .string ⟨eb.nm.toArray⟩, .int .i64 eb.k.n, .string ⟨eb.k.p.toArray⟩, .int .i64 eb.w.n, .string ⟨eb.w.p.toArray⟩, .slice Ab eb.args.length cb])] ⟨rfl, rfl, rfl, ⟨hea, Aa, ca, rfl, HRA.out⟩, rfl, ⟨heb, Ab, cb, rfl, HRB.out⟩, trivial⟩ (by intro p hp; simp only [List.mem_cons, List.not_mem_nil, or_false] at hp; rcases hp with rfl | rfl | rfl | rfl | rfl | rfl <;> first | exact trivial | exact num_pr _ | exact prE _ | exact rule_pr _) 6 rfl (by omega) 20) hww)
      go_wp2_with (go_at_call 109; with_reducible refine HC.out.mono ?_; rintro e w9 ⟨rfl, hg9⟩)
      exact ⟨rfl, PG.of_no (by rw [HF.out]; exact hww) ((HGX.out).trans0 hg9)⟩
    | some t2 =>
      have HC := Lib.hid (pg_ok (write_new HX.out [.s [112, 117, 116, 32], .s nm, .s [32, 105, 102, 32], .e ea, .s [32, 61, 32], .e eb] #[.iface 9 (.string ⟨#[112, 117, 116, 32]⟩), .iface 9 (.string ⟨nm.toArray⟩), .iface 9 (.string ⟨#[32, 105, 102, 32]⟩), .iface 63 (.agg #[.int .i64 ea.op, .string ⟨ea.nm.toArray⟩, .int .i64 ea.k.n, .string ⟨ea.k.p.toArray⟩, .int .i64 ea.w.n, .string ⟨ea.w.p.toArray⟩, .slice Aa ea.args.length ca]), .iface 9 (.string ⟨#[32, 61, 32]⟩), .iface 63 (.agg #[.int .i64 eb.op, .string ⟨eb.nm.toArray⟩, .int .i64 eb.k.n, .string ⟨eb.k.p.toArray⟩, .int .i64 eb.w.n, .string ⟨eb.w.p.toArray⟩, .slice Ab eb.args.length cb])] ⟨rfl, rfl, rfl, ⟨hea, Aa, ca, rfl, HRA.out⟩, rfl, ⟨heb, Ab, cb, rfl, HRB.out⟩, trivial⟩ (by intro p hp; simp only [List.mem_cons, List.not_mem_nil, or_false] at hp; rcases hp with rfl | rfl | rfl | rfl | rfl | rfl <;> first | exact trivial | exact num_pr _ | exact prE _ | exact rule_pr _) 6 rfl (by omega) 20) hww)
      go_wp2_with (go_at_call 109; with_reducible refine HC.out.mono ?_; rintro e w9 ⟨rfl, tb9, hp9, ht9, hg9⟩)
      go_end0
      exact PG.of_ok (by rw [HF.out]; exact hww) ((HGX.out).trans0 hg9) hp9 (ht9.imp id fun e g eg => Nat.le_trans (HGX.out).size (e g eg))
  by_cases hk9 : kd = 9
  · subst hk9
    have HF : Hid (itemX ⟨9, nm, wd, dp, it, ea, eb, ec, rl, o_, args, ports⟩ = catO (seqO [some [105, 110, 115, 116, 32], some nm, some [58, 32], some o_]) (catO (listX (args.map fun x => some (numX x))) (catO (seqO [some [32]]) (catO (listX (ports.map bindX)) (some []))))) := Lib.hid rfl
    have n2 : w.heap.size ≠ qb := by omega
    have nR : w.heap.size + 1 ≠ qb := by omega
    have t2 : some w.heap.size ≠ tb := fun e => by have := htw _ e.symm; omega
    have tR : some (w.heap.size + 1) ≠ tb := fun e => by have := htw _ e.symm; omega
    cases hw1 : wr (seqO [some [105, 110, 115, 116, 32], some nm, some [58, 32], some o_]) t with
    | none =>
      have HC1 := Lib.hid (pg_no (write_new HX.out [.s [105, 110, 115, 116, 32], .s nm, .s [58, 32], .s o_] #[.iface 9 (.string ⟨#[105, 110, 115, 116, 32]⟩), .iface 9 (.string ⟨nm.toArray⟩), .iface 9 (.string ⟨#[58, 32]⟩), .iface 9 (.string ⟨o_.toArray⟩)] ⟨rfl, rfl, rfl, rfl, trivial⟩ (by intro p hp; simp only [List.mem_cons, List.not_mem_nil, or_false] at hp; rcases hp with rfl | rfl | rfl | rfl <;> first | exact trivial | exact num_pr _ | exact prE _ | exact rule_pr _) 4 rfl (by omega) 20) hw1)
      go_wp2_with (go_at_call 109; with_reducible refine HC1.out.mono ?_; rintro e w1 ⟨rfl, hg1⟩)
      exact ⟨rfl, PG.of_no (by rw [HF.out]; exact wr_no hw1) (HGX.out.trans0 hg1)⟩
    | some t1 =>
    have HC1 := Lib.hid (pg_ok (write_new HX.out [.s [105, 110, 115, 116, 32], .s nm, .s [58, 32], .s o_] #[.iface 9 (.string ⟨#[105, 110, 115, 116, 32]⟩), .iface 9 (.string ⟨nm.toArray⟩), .iface 9 (.string ⟨#[58, 32]⟩), .iface 9 (.string ⟨o_.toArray⟩)] ⟨rfl, rfl, rfl, rfl, trivial⟩ (by intro p hp; simp only [List.mem_cons, List.not_mem_nil, or_false] at hp; rcases hp with rfl | rfl | rfl | rfl <;> first | exact trivial | exact num_pr _ | exact prE _ | exact rule_pr _) 4 rfl (by omega) 20) hw1)
    go_upto_region 21 with (go_at_call 109; with_reducible refine HC1.out.mono ?_; rintro e w1 ⟨rfl, tb1, hp1, ht1, hg1⟩)
    have hg1X := hg1
    have ht1X := ht1
    have m21 := hg1X.boxO HM2.out n2 t2
    have mR1 := hg1X.boxO HMR.out nR tR
    have e0 := m21.cell (i := 0) rfl
    have e33 := mR1.cell (i := 33) rfl
    have e34 := mR1.cell (i := 34) rfl
    have hLA := plist_item1 base qb tb1 t1 (args.map fun x => some (numX x)) w.heap.size (w.heap.size + 1) w1 hp1 (by rw [List.length_map]; exact hal) (fun k x hx W tbk tk hgk htk hpk => by
      rw [List.getElem?_map] at hx
      obtain ⟨y, hy, rfl⟩ := Option.map_eq_some_iff.1 hx
      exact cl_item1 base qb w.heap.size (w.heap.size + 1) tbk tk args _ An cn k y hy (har y (List.mem_of_getElem? hy)) W hpk (BoxO.boxL ((hg1X.trans hgk ht1X).boxO HM2.out n2 t2)) ((hg1X.trans hgk ht1X).boxO HMR.out nR tR) rfl ((hg1X.trans hgk ht1X).fr HX.out.nqb HX.out.ntb HRN.out))
    rw [List.length_map] at hLA
    cases hw2 : wr (listX (args.map fun x => some (numX x))) t1 with
    | none =>
      have HC2 := Lib.hid (pg_no (hLA) hw2)
      go_wp2_with (go_at_call 110; refine HC2.out.mono ?_; rintro e w2 ⟨rfl, hg2⟩)
      exact ⟨rfl, PG.of_no (by rw [HF.out, wr_ok hw1]; exact wr_no hw2) (HGX.out.trans0 (hg1X.trans hg2 ht1X))⟩
    | some u2 =>
    have HC2 := Lib.hid (pg_ok (hLA) hw2)
    go_upto_region 22 with (go_at_call 110; refine HC2.out.mono ?_; rintro e w2 ⟨rfl, tb2, hp2, ht2, hg2⟩)
    have hg2X := hg1X.trans hg2 ht1X
    have ht2X := ht_trans hg1X ht1X ht2
    clear e0 e33 e34 m21 mR1 hLA HC2 HC1
    have m22 := hg2X.boxO HM2.out n2 t2
    have mR2 := hg2X.boxO HMR.out nR tR
    have e0 := m22.cell (i := 0) rfl
    have e33 := mR2.cell (i := 33) rfl
    have e34 := mR2.cell (i := 34) rfl
    cases hw3 : wr (seqO [some [32]]) u2 with
    | none =>
      have HC3 := Lib.hid (pg_no (write_new hp2 [.s [32]] #[.iface 9 (.string ⟨#[32]⟩)] ⟨rfl, trivial⟩ (by intro p hp; simp only [List.mem_cons, List.not_mem_nil, or_false] at hp; rcases hp with rfl <;> first | exact trivial | exact num_pr _ | exact prE _ | exact rule_pr _) 1 rfl (by omega) 20) hw3)
      go_wp2_with (go_at_call 109; with_reducible refine HC3.out.mono ?_; rintro e w3 ⟨rfl, hg3⟩)
      exact ⟨rfl, PG.of_no (by rw [HF.out, wr_ok hw1, wr_ok hw2]; exact wr_no hw3) (HGX.out.trans0 (hg2X.trans hg3 ht2X))⟩
    | some t3 =>
    have HC3 := Lib.hid (pg_ok (write_new hp2 [.s [32]] #[.iface 9 (.string ⟨#[32]⟩)] ⟨rfl, trivial⟩ (by intro p hp; simp only [List.mem_cons, List.not_mem_nil, or_false] at hp; rcases hp with rfl <;> first | exact trivial | exact num_pr _ | exact prE _ | exact rule_pr _) 1 rfl (by omega) 20) hw3)
    go_upto_region 23 with (go_at_call 109; with_reducible refine HC3.out.mono ?_; rintro e w3 ⟨rfl, tb3, hp3, ht3, hg3⟩)
    have hg3X := hg2X.trans hg3 ht2X
    have ht3X := ht_trans hg2X ht2X ht3
    clear e0 e33 e34 m22 mR2 HC3
    have m23 := hg3X.boxO HM2.out n2 t2
    have mR3 := hg3X.boxO HMR.out nR tR
    have e0 := m23.cell (i := 0) rfl
    have e33 := mR3.cell (i := 33) rfl
    have e34 := mR3.cell (i := 34) rfl
    have hLP := plist_item2 base qb tb3 t3 (ports.map bindX) w.heap.size (w.heap.size + 1) w3 hp3 (by rw [List.length_map]; exact hpl) (fun k x hx W tbk tk hgk htk hpk => by
      rw [List.getElem?_map] at hx
      obtain ⟨y, hy, rfl⟩ := Option.map_eq_some_iff.1 hx
      exact cl_item2 base qb w.heap.size (w.heap.size + 1) tbk tk ports _ Ap cp k y hy W hpk (BoxO.boxL ((hg3X.trans hgk ht3X).boxO HM2.out n2 t2)) ((hg3X.trans hgk ht3X).boxO HMR.out nR tR) rfl ((hg3X.trans hgk ht3X).fr HX.out.nqb HX.out.ntb HRP.out))
    rw [List.length_map] at hLP
    cases hw4 : wr (listX (ports.map bindX)) t3 with
    | none =>
      have HC4 := Lib.hid (pg_no (hLP) hw4)
      go_wp2_with (go_at_call 110; refine HC4.out.mono ?_; rintro e w4 ⟨rfl, hg4⟩)
      exact ⟨rfl, PG.of_no (by rw [HF.out, wr_ok hw1, wr_ok hw2, wr_ok hw3]; exact wr_no hw4) (HGX.out.trans0 (hg3X.trans hg4 ht3X))⟩
    | some t4 =>
    have HC4 := Lib.hid (pg_ok (hLP) hw4)
    go_wp2_with (go_at_call 110; refine HC4.out.mono ?_; rintro e w4 ⟨rfl, tb4, hp4, ht4, hg4⟩)
    go_end0
    exact PG.of_ok (by rw [HF.out, wr_ok hw1, wr_ok hw2, wr_ok hw3, catO_nil]; exact hw4) (HGX.out.trans0 (hg3X.trans hg4 ht3X)) hp4 ((ht_trans hg3X ht3X ht4).imp id fun e g eg => Nat.le_trans HGX.out.size (e g eg))
  have HF : Hid (itemX ⟨kd, nm, wd, dp, it, ea, eb, ec, rl, o_, args, ports⟩ = none) := Lib.hid (by unfold itemX; dsimp only; rw [if_neg hk1, if_neg hk2, if_neg hk3, if_neg hk4, if_neg hk5, if_neg hk6, if_neg hk7, if_neg hk8, if_neg hk9])
  have HG := Lib.hid (giveUp_any qb)
  go_wp2_with (go_at_call 168; with_reducible refine (HG.out _).mono ?_; rintro e w1 ⟨rfl, rfl⟩)
  exact ⟨rfl, PG.of_no (by rw [HF.out]; rfl) HGX.out⟩

end Sy
end Go.Proofs.YtggeepimihhpjaaGreatDoor
