/- client: ask. -/
import Derived.Test.YtgebhomiehadmaaCcG
namespace Go.Proofs.Ytgebhomiehadmaa
open Go.RowKit Go.Maps
set_option linter.unusedVariables false
set_option linter.unusedSimpArgs false
set_option maxRecDepth 100000

/-- A function with a body is entered. -/
def Ent (fn : Nat) : Prop := ∀ (args : Array Value) (W : World), (callFunc fn args).run Try.prog W = .ok (.enter fn args) W
theorem ent_of {f : FuncId} {g : Func} {c : Code} (hf : Try.prog.funcs[f]? = some g) (hn : (g.name == "runtime.NumGoroutine") = false) (hb : g.body = some c) : Ent f := by
  intro args w
  have h1 : g.name ≠ "runtime.NumGoroutine" := by simpa using hn
  simp [callFunc, hf, h1, hb, mark]
theorem ent43 : Ent 43 := ent_of Try.func43 (by kernel_rfl) rfl
theorem ent51 : Ent 51 := ent_of Try.func51 (by kernel_rfl) rfl
theorem ent60 : Ent 60 := ent_of Try.func60 (by kernel_rfl) rfl
theorem add_at (b o j : Nat) : (⟨b, o, none⟩ : Addr).add j = ⟨b, o + j, none⟩ := by unfold Addr.add; split <;> simp_all
theorem info64 : (Try.prog.info? 64).map (fun i => (i.zero, i.size, i.bytes)) = some (some (.agg #[.int .i64 0, .int .i64 0, .int .i64 0, .int .i64 0, .int .i64 0, .int .i64 0, .int .i64 0, .slice none 0 0]), 8, 80) := by kernel_rfl
theorem info79 : (Try.prog.info? 79).map (fun i => (i.zero, i.size, i.bytes)) = some (some (.agg #[.int .i64 0, .int .i64 0, .int .i64 0, .int .i64 0, .int .i64 0, .int .i64 0, .int .i64 0, .slice none 0 0]), 8, 80) := by kernel_rfl
/-- append(l, x), a row of calls. -/
theorem appK {t st : TypeId} (hu : Try.prog.underlying st = some (.slice t)) (hinf : (Try.prog.info? t).map (fun i => (i.zero, i.size, i.bytes)) = some (some (.agg #[.int .i64 0, .int .i64 0, .int .i64 0, .int .i64 0, .int .i64 0, .int .i64 0, .int .i64 0, .slice none 0 0]), 8, 80)) {W : World} {B : Nat} {v : Value} {l : List KV} (h : OwnK t W B v l) (x : KV) (q : Nat) (hq : Blk W q (calC x).toArray t) (hone : x.2.oneCell' = true) (hl : (l.length : Int) + 1 ≤ 1400000000000) (hB : B ≤ W.heap.size) (ty : TypeId) :
    ∃ a' c' W', (Builtin.append_ #[st, st] ty #[v, .slice (some ⟨q, 0, none⟩) 1 1]).run Try.prog W = .ok (.slice a' (l.length + 1) c') W' ∧ OwnK t W' B (.slice a' (l.length + 1) c') (l ++ [x]) ∧ W.grownBy W' v.ownBlock ∧ ((Value.slice a' (l.length + 1) c').ownBlock = v.ownBlock ∨ (Value.slice a' (l.length + 1) c').ownBlock = some W.heap.size) := by
  obtain ⟨i0, hi, hz0, hz1, hz2⟩ := info_parts hinf
  obtain ⟨v', w', hr, hown, hg, _, hbl⟩ := run_append_own_at (P := Try.prog) W B st ty t i0 _ 8 80 hu hi hz0 hz1 hz2 rfl (by decide) v l.length (cals l) h ⟨q, 0, none⟩ 1 1 (calC x) rfl (fun j u hj => by
    rw [add_at, Nat.zero_add, hq.cell]; simpa using hj) (fun u hu => by
      simp only [calC, List.mem_cons, List.not_mem_nil, or_false] at hu
      rcases hu with rfl | rfl | rfl | rfl | rfl | rfl | rfl | rfl
      all_goals first | rfl | exact hone) (by unfold maxLen; omega) (by omega) hB
  obtain ⟨a', c', rfl⟩ := row_shape hown
  refine ⟨a', c', w', hr, ?_, hg, hbl⟩
  unfold OwnK
  rw [cals_append, List.length_append]
  simpa [cals] using hown
theorem one_own {w : World} {B : Nat} {v : Value} {l : List UInt8} (h : Own w B v l) : v.oneCell' = true := by
  obtain ⟨a, c, rfl⟩ := h.len
  rfl
theorem okC_pre {g : Cli} (h : OkC g) {p : Nat} (hp : p < g.sv.length) : OkC (preG g p) :=
  ⟨h.id0, h.id1, h.pa0, h.pa1, h.sv0, h.sv1, hp, Int.le_refl _, by show 0 ≤ g.tr + 1; have := h.tr; omega, h.sq, h.ob⟩
/-- What is read of a client while it asks. -/
def AskR (B b : Nat) (V : CV) (g : Cli) (W : World) : Prop := Blk W b (cliL g V).toArray 58 ∧ OwnI W B V.vs g.sv
theorem IsC.askR {W : World} {B b : Nat} {V : CV} {g : Cli} (h : IsC W B b V g) : AskR B b V g W := ⟨h.blk, h.sv⟩
theorem AskR.kept {W W' : World} {B b : Nat} {V : CV} {g : Cli} (h : AskR B b V g W) (hg : W.grownBy W' none) : AskR B b V g W' := ⟨h.1.kept hg (by simp), h.2.kept hg⟩
theorem AskR.app {W W' : World} {B B' b : Nat} {V : CV} {g : Cli} {t : TypeId} {size : Nat} {v : Value} {n : Nat} {xs : List Value} (h : AskR B b V g W) (hr : W.ownsRow B' t size v n xs) (hg : W.grownBy W' v.ownBlock) (h1 : 58 ≠ t) (h2 : 3 ≠ t) : AskR B b V g W' :=
  ⟨h.1.kept hg (own_ne hr h.1 h1), owns_kept h.2 hg (fun q cur hq e => by
    obtain ⟨_, d, hd⟩ := own_low hr q e.symm
    rw [hd] at hq
    simp at hq
    exact h2 hq.2.symm)⟩
/-- A client whose row of calls has grown, its cell not yet written. -/
theorem grow_cli {w W W2 : World} {B b : Nat} {V : CV} {v' : Value} {g : Cli} {x : KV} (h : IsC W B b V g) (hw : w.grownBy W none) (hlt : ∀ k, FtC b V k → k < w.heap.size) (ho : OwnK 64 W2 B v' (V.L ++ [x])) (hg : W.grownBy W2 V.vc.ownBlock) (hbl : v'.ownBlock = V.vc.ownBlock ∨ v'.ownBlock = some W.heap.size) (hxo : Own W B x.2 x.1.b) (hxb : ∀ k, x.2.ownBlock = some k → w.heap.size ≤ k) :
    CPv w (W2.setCell ⟨b, 19, none⟩ v') B b V { V with vc := v', L := V.L ++ [x] } g { g with out := g.out ++ [x.1] } := by
  have ne : ∀ {e : TypeId} {size : Nat} {v : Value} {n : Nat} {xs : List Value}, W.ownsRow B e size v n xs → 64 ≠ e → W2.ownsRow B e size v n xs := fun {e size v n xs} hr hn => owns_kept hr hg (fun q cur hq e1 => by
    obtain ⟨_, d, hd⟩ := own_low h.row q e1.symm
    rw [hd] at hq
    simp at hq
    exact hn hq.2)
  have HB : Blk W2 b (cliL g V).toArray 58 := h.blk.kept hg (own_ne h.row h.blk (by decide))
  have G2 := grown_setCell W2 b 19 v'
  have ne2 : ∀ {e : TypeId} {size : Nat} {v : Value} {n : Nat} {xs : List Value}, W2.ownsRow B e size v n xs → 58 ≠ e → (W2.setCell ⟨b, 19, none⟩ v').ownsRow B e size v n xs := fun {e size v n xs} hr hn => owns_kept hr G2 (fun q cur hq e1 => by
    injection e1 with e1
    subst e1
    unfold Blk at HB
    rw [HB] at hq
    simp at hq
    exact hn hq.2)
  refine ⟨⟨?_, ne2 (ne h.sv (by decide)) (by decide), ne2 (ne h.od (by decide)) (by decide), ne2 ho (by decide), fun p hp => ?_, ⟨ne2 (ne h.rcs.1 (by decide)) (by decide), fun p hp => ne2 (ne (h.rcs.2 p hp) (by decide)) (by decide)⟩, ?_, h.recs, h.low, ?_⟩, ?_, fun k e => ?_⟩
  · exact HB.set 19 v'
  · rcases List.mem_append.1 hp with hp | hp
    · exact ne2 (ne (h.bts p hp) (by decide)) (by decide)
    · simp at hp; subst hp; exact ne2 (ne hxo (by decide)) (by decide)
  · show (V.L ++ [x]).map (·.1) = g.out ++ [x.1]
    rw [List.map_append, h.outs]; rfl
  · exact ⟨h.ok.id0, h.ok.id1, h.ok.pa0, h.ok.pa1, h.ok.sv0, h.ok.sv1, h.ok.pl, h.ok.ps0, h.ok.tr, h.ok.sq, h.ok.ob⟩
  · exact keeps_then (Keeps.of_none hw) ((Keeps.of_grown hg (fun k e _ => .inr e) : Keeps (MutC b V) W W2).thenZ (Keeps.one G2 (.inl rfl))) (fun _ _ e => e)
  · rcases e with (rfl | e) | e | e | e | ⟨p, hp, e⟩
    · exact .inl (.inl (.inl rfl))
    · have e : v'.ownBlock = some k := e
      rcases hbl with h1 | h1
      · exact .inl (.inl (.inr (by rw [← h1]; exact e)))
      · rw [h1] at e; injection e with e; exact .inr (by have := hw.size; omega)
    · exact .inl (.inr (.inl e))
    · exact .inl (.inr (.inr (.inl e)))
    · exact .inl (.inr (.inr (.inr (.inl e))))
    · have hp : p ∈ V.L ++ [x] := hp
      rcases List.mem_append.1 hp with hp | hp
      · exact .inl (.inr (.inr (.inr (.inr ⟨p, hp, e⟩))))
      · simp at hp; subst hp; exact .inr (hxb k e)
set_option maxHeartbeats 8000000 in
theorem ask_any {w : World} {B b : Nat} {V : CV} {g : Cli} (h : IsC w B b V g) (hf : Fit g 1390000000000) (fn : Nat) (hent : Ent fn) (recv caps : Array Value) (p : Nat) (hp : p < g.sv.length) (hway : Way w B b V g fn (recv ++ caps) p) :
    Calls Try.prog 42 #[.pointer (some ⟨b, 0, none⟩), .func (.func fn) recv caps] w fun e w' => e = .returned (.tuple #[]) ∧ CP w w' B b V g (askG g p) := by
  have HE := hid_mk hent
  have HW := hid_mk hway
  have HN := hid_mk (And.intro h (And.intro hf hp))
  clear h hf hent hway hp
  go_enter Try.func42, Try.ntmps42
  go_wp2_with fail
  rw [HE.out, Oper.upon_enter]
  refine HW.out.mono ?_
  rintro e w1 ⟨rfl, hc⟩
  have c6 := hc.cli.c 6 rfl
  have c12 := hc.cli.c 12 rfl
  have hf := hc.cli.fz
  have ht1 : 0 ≤ g.tr := HN.out.1.ok.tr
  have ht2 : g.tr ≤ 1390000000000 := HN.out.2.1.tr
  have k1 := CPv.set hc.cli 6 (.int .i64 (g.tr + 1)) { g with pl := p, tr := g.tr + 1 } rfl rfl rfl rfl rfl ⟨hc.cli.ok.id0, hc.cli.ok.id1, hc.cli.ok.pa0, hc.cli.ok.pa1, hc.cli.ok.sv0, hc.cli.ok.sv1, hc.cli.ok.pl, hc.cli.ok.ps0, by show 0 ≤ g.tr + 1; omega, hc.cli.ok.sq, hc.cli.ok.ob⟩
  have k2 := CPv.set k1.cli 12 (.int .i64 0) (preG g p) rfl rfl rfl rfl rfl (okC_pre HN.out.1.ok HN.out.2.2)
  have H2 := hid_mk (CPv.then HN.out.1 (CPv.then HN.out.1 hc k1) k2)
  clear k1 k2 hc HW HE
  go_upto_region 3 with fail
  clear c6 c12 hf ht1 ht2
  generalize (w1.setCell ⟨b, 6, none⟩ (.int .i64 (g.tr + 1))).setCell ⟨b, 12, none⟩ (.int .i64 0) = w2 at *
  obtain ⟨x, hx⟩ : ∃ x, x = wordsC (preG g p) := ⟨_, rfl⟩
  have HX := hid_mk hx
  have HWV := hid_mk (show ∀ v', wordsV (preG g p) v' = .agg #[.int .i64 x.id, .int .i64 x.kd, .int .i64 x.se, .int .i64 x.sq, .int .i64 x.fr, .int .i64 x.mo, v'] from fun v' => by rw [hx]; rfl)
  have HTO := hid_mk (show x.to = (preG g p).sv.getD (preG g p).pl 0 from by rw [hx]; rfl)
  clear hx
  obtain ⟨sa, sc, oa, oc, ra, rc, ca, cc, e1, e2, e3, e4⟩ := H2.out.cli.seen
  have HS := hid_mk (And.intro e1 e4)
  clear e1 e2 e3 e4
  have HC := hid_mk (fun (W : World) (hW : AskR B b V (preG g p) W) => show W.cell? ⟨b, 19, none⟩ = some (.slice ca V.L.length cc) ∧ (Calls Try.prog 54 #[.pointer (some ⟨b, 2, none⟩)] W fun e w' => e = .returned (.int .i64 x.to) ∧ ∃ nq, w' = W.drewN nq) from by
    have c2 : W.cell? ⟨b, 2, none⟩ = some V.vs := by rw [hW.1.cell]; rfl
    have c3 : W.cell? ⟨b, 3, none⟩ = some (.int .i64 (preG g p).pl) := by rw [hW.1.cell]; rfl
    have c19 : W.cell? ⟨b, 19, none⟩ = some V.vc := by rw [hW.1.cell]; rfl
    refine ⟨by rw [c19, HS.out.2], ?_⟩
    rw [HTO.out]
    exact server_cells c2 c3 HN.out.2.2 hW.2.ints HN.out.1.ok.sv1)
  refine wp_region_mixL [(0, true), (1, true), (2, true), (3, true), (4, true), (5, true), (6, true), (7, true), (8, true), (9, true), (10, false), (11, true), (12, false), (13, false), (14, true), (15, true)] 16 (at0 w2 (AskR B b V (preG g p))) (by kernel_rfl) (by kernel_rfl) rfl (by kernel_rfl) rfl (by kernel_rfl) (shut_at0 (fun m => H2.out.cli.askR.kept (grown_drewN _ m none))) ⟨1, rfl⟩ ?_
  repeat (refine mix_rd1 rfl rfl (fun K hK => ?_); apply Exists.intro; refine ⟨fun W hW => ?_, ?_⟩; (have d19 := (HC.out W hW).1; go_simp; rfl); (go_simp; refine hK _ _ ?_; clear hK K))
  refine mix_rdcall rfl rfl 54 #[.pointer (some ⟨b, 2, none⟩)] (.int .i64 x.to) (fun W => by go_simp) (fun W hW => (HC.out W hW).2) ?_
  go_simp
  repeat (refine mix_rd1 rfl rfl (fun K hK => ?_); apply Exists.intro; refine ⟨fun W hW => ?_, ?_⟩; (go_simp; rfl); (go_simp; refine hK _ _ ?_; clear hK K))
  refine mix_call rfl rfl 55 #[.pointer (some ⟨b, 0, none⟩)] (fun W0 => by go_simp) ?_
  rintro W0 ⟨m0, rfl⟩
  refine (words_any (H2.out.cli.drew m0) (by show g.tr + 1 ≤ 1400000000000; have := HN.out.2.1.tr; omega)).mono ?_
  rintro e w3 ⟨u, rfl, ho, hg⟩
  rw [HWV.out u]
  obtain ⟨ua, uc, rfl⟩ := ho.len
  have G3 := grown_trans (grown_drewN w2 m0 none) hg
  have H3 := hid_mk (And.intro G3 (show Own w3 w2.heap.size (.slice ua (preG g p).o.b.length uc) x.b from by rw [HX.out]; exact ho))
  clear ho hg G3
  refine ⟨_, rfl, at0 w3 (AskR B b V (preG g p)), ⟨0, rfl⟩, shut_at0 (fun m => (H2.out.cli.askR.kept H3.out.1).kept (grown_drewN _ m none)), fun _ h => h, ?_⟩
  go_simp
  repeat (refine mix_rd1 rfl rfl (fun K hK => ?_); apply Exists.intro; refine ⟨fun W hW => ?_, ?_⟩; (go_simp; rfl); (go_simp; refine hK _ _ ?_; clear hK K))
  refine mix_do rfl rfl ?_
  rintro W0 ⟨m1, rfl⟩
  refine ⟨.slice (some ⟨w3.heap.size, 0, none⟩) 1 1, (w3.drewN m1).alloc (.cells (calC (x, .slice ua (preG g p).o.b.length uc)).toArray 64), by go_simp; rfl, ?_⟩
  have G5 := grown_trans (grown_drewN w3 m1 none) (World.grownBy_alloc (w3.drewN m1) (.cells (calC (x, .slice ua (preG g p).o.b.length uc)).toArray 64) none)
  have HB5 := hid_mk (show Blk ((w3.drewN m1).alloc (.cells (calC (x, .slice ua (preG g p).o.b.length uc)).toArray 64)) w3.heap.size (calC (x, .slice ua (preG g p).o.b.length uc)).toArray 64 from blk_alloc (w3.drewN m1) _ _)
  have H5 := hid_mk (And.intro (grown_trans H3.out.1 G5) (own_grown H3.out.2 G5))
  clear G5
  generalize (w3.drewN m1).alloc (.cells (calC (x, .slice ua (preG g p).o.b.length uc)).toArray 64) = w5 at *
  generalize w3.heap.size = q5 at *
  refine ⟨at0 w5 (AskR B b V (preG g p)), ⟨0, rfl⟩, shut_at0 (fun m => (H2.out.cli.askR.kept H5.out.1).kept (grown_drewN _ m none)), fun _ h => h, ?_⟩
  go_simp
  refine mix_do rfl rfl ?_
  rintro W0 ⟨m2, rfl⟩
  have hI := H2.out.cli.kept (grown_trans H5.out.1 (grown_drewN w5 m2 none))
  have hBs : B ≤ (w5.drewN m2).heap.size := by have h1 := hI.low; have h2 := hI.blk.lt; omega
  have hlen : (V.L.length : Int) + 1 ≤ 1400000000000 := by
    have h1 : V.L.length = g.out.length := by rw [← HN.out.1.outs, List.length_map]
    have h2 := HN.out.2.1.out
    omega
  obtain ⟨a', c', w6, hr, ho6, hg6, hbl6⟩ := appK Try.underlying52 info64 hI.row (x, .slice ua (preG g p).o.b.length uc) q5 (HB5.out.kept (grown_drewN w5 m2 none) (by simp)) rfl hlen hBs 52
  rw [HS.out.2] at hr
  refine ⟨_, _, exec_app (s := .tmp 20) (y := .tmp 28) rfl rfl rfl hr, ?_⟩
  have H6 := hid_mk (And.intro hI (And.intro ho6 (And.intro hg6 (And.intro hbl6 (show Own (w5.drewN m2) w2.heap.size (.slice ua (preG g p).o.b.length uc) x.b from own_grown H5.out.2 (grown_drewN w5 m2 none))))))
  have HA6 := hid_mk (AskR.app hI.askR hI.row hg6 (by decide) (by decide))
  clear hI hBs hlen hr ho6 hg6 hbl6
  refine ⟨at0 w6 (AskR B b V (preG g p)), ⟨0, rfl⟩, shut_at0 (fun m => HA6.out.kept (grown_drewN _ m none)), fun _ h => h, ?_⟩
  go_simp
  repeat (refine mix_rd1 rfl rfl (fun K hK => ?_); apply Exists.intro; refine ⟨fun W hW => ?_, ?_⟩; (go_simp; rfl); (go_simp; refine hK _ _ ?_; clear hK K))
  refine mix_nil ?_
  rintro W ⟨m5, rfl⟩
  have b7 : (w6.drewN m5).cell? ⟨b, 19, none⟩ = some V.vc := by rw [(HA6.out.kept (grown_drewN w6 m5 none)).1.cell]; rfl
  have f7 : (w6.drewN m5).frozen? ⟨b, 19, none⟩ = false := (HA6.out.kept (grown_drewN w6 m5 none)).1.frozen 19
  refine ⟨(w6.drewN m5).setCell ⟨b, 19, none⟩ (.slice a' (V.L.length + 1) c'), by go_simp, ?_⟩
  go_wp2
  go_end0
  obtain ⟨i1, i2, i3, i4, i5⟩ := H6.out
  have hk := grow_cli (w := w2) (x := (x, .slice ua (preG g p).o.b.length uc)) i1 (grown_trans H5.out.1 (grown_drewN w5 m2 none)) (fun k e => (H2.out.cli.ft e).2) (i2.kept (grown_drewN w6 m5 none)) (grown_trans i3 (grown_drewN w6 m5 _)) i4 (i5.base (by have h1 := H2.out.cli.low; have h2 := H2.out.cli.blk.lt; omega)) (fun k e => (owns_lt i5 e).1)
  rw [show askG g p = { preG g p with out := (preG g p).out ++ [x] } from by rw [HX.out]; rfl]
  exact ⟨rfl, _, CPv.then HN.out.1 H2.out hk⟩
end Go.Proofs.Ytgebhomiehadmaa
