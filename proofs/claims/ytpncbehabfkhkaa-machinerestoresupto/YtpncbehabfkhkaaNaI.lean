/- machine: do, to open a session. -/
import Derived.Test.YtpncbehabfkhkaaNaH
namespace Go.Proofs.Ytpncbehabfkhkaa.W
open Go.RowKit Go.Maps Go.WideMaps Go.WideElems
set_option linter.unusedVariables false
set_option linter.unusedSimpArgs false
set_option maxRecDepth 100000

set_option maxHeartbeats 4000000 in
theorem do_open (w : World) (Z : Nat → Prop) (b : Nat) (m : Mach) (cm : Cmd) (da : Option Addr) (dc : Nat) (h : IsM w Z b m) (hk : cm.k = 1) (hq : cm.q = 0) (hd : cm.d.length ≤ 1024) (hl : m.rs.length ≤ 3000000000000) (B : Nat) (ho : Own w B (.slice da cm.d.length dc) cm.d) (hzd : ∀ k, (Value.slice da cm.d.length dc).ownBlock = some k → Z k) (hf : m.ss.length < 16) (hlt : ∀ t ∈ m.ss, t.n < m.ap) :
    Calls Try.prog 58 #[.pointer (some ⟨b, 0, none⟩), cmdV cm (.slice da cm.d.length dc)] w (DoPost w Z b m ⟨0, m.ap, 0⟩ (fun l => ∃ f, l = m.ss ++ [⟨m.ap, 0, 0, m.ap, f⟩]) (m.rs.map Prod.snd)) := by
  have HB := hid_mk (do_boxes w cm (.slice da cm.d.length dc))
  have HM := hid_mk (And.intro h.bound (And.intro ho (show ∀ k, (Value.slice da cm.d.length dc).ownBlock = some k → Z k ∧ k < w.heap.size from fun k e => ⟨hzd k e, by obtain ⟨_, c, hc⟩ := own_low ho k e; exact (Array.getElem?_eq_some_iff.1 hc).1⟩)))
  have HK := hid_mk (And.intro hk (And.intro hf (And.intro hlt hq)))
  have hap := h.top.1
  clear hk h hlt ho hzd hq
  unfold cmdV
  go_enter Try.func58, Try.ntmps58
  go_upto_region 1 with fail
  generalize ((w.alloc (.cells #[.int .i64 cm.k, .int .i64 cm.s, .int .i64 cm.q, .int .i64 cm.t, .slice da cm.d.length dc] 104)).alloc (.cells #[.int .i64 0, .int .i64 0, .int .i64 0] 52)) = w1 at *
  obtain ⟨q, hqq⟩ : ∃ q, q = w.heap.size := ⟨_, rfl⟩
  obtain ⟨qr, hqr⟩ : ∃ qr, qr = w.heap.size + 1 := ⟨_, rfl⟩
  rw [← hqr] at HB ⊢
  rw [← hqq] at HB ⊢
  have HQ := hid_mk (And.intro hqq hqr)
  clear hqq hqr
  have c0 : w1.cell? ⟨q, 0, none⟩ = some (.int .i64 1) := by rw [HB.out.1.cell]; show some (Value.int .i64 (cm.k : Int)) = _; rw [HK.out.1]; rfl
  obtain ⟨Zb, hZb⟩ : ∃ Zb : Nat → Prop, Zb = fun k => Z k ∧ k < w.heap.size := ⟨_, rfl⟩
  rw [← hZb] at HM
  have HZ := hid_mk hZb
  clear hZb
  have HD := hid_mk (HM.out.1.kept HB.out.2.2)
  have m4 := HD.out.cells.2.2.2.2.1
  have hdr := HD.out.dir
  have hsz : Maps.size (dirM m.ss) = m.ss.length := size_dir _
  have hne : ((m.ss.length : Int) == 16) = false := by simp; omega
  go_upto_region 7 with (first | (at_len; refine wpList_len_own _ rfl _ 61 rfl 3 100 Try.underlying61 _ m.bm m.N (dirM m.ss) rfl hdr ?_; rw [hsz]) | go_in)
  clear c0 m4 hdr hsz hne
  have HAll : ∀ W, (w1.grownBy W (some m.bm)) → W.cell? ⟨b, 4, none⟩ = some (.map (some m.bm)) ∧ W.cell? ⟨b, 1, none⟩ = some (.int .i64 m.ap) := fun W hW => by
    have hb := HD.out.blk.kept hW (by simpa using map_ne HD.out.blk HD.out.dir)
    exact ⟨by rw [hb.cell]; rfl, by rw [hb.cell]; rfl⟩
  refine wp_region_mix [(0, true), (1, true), (2, true), (3, true), (4, true), (5, true), (6, true), (7, true), (8, true), (9, false), (10, false)] (at0 w1 (fun W => w1.grownBy W (some m.bm))) (by kernel_rfl) (by kernel_rfl) rfl (by kernel_rfl) (shut_at0 (fun mm => grown_drewN _ mm _)) ⟨1, rfl⟩ ?_
  repeat (refine mix_rd1 rfl rfl (fun K hK => ?_); apply Exists.intro; refine ⟨fun W0 hW => ?_, ?_⟩; (obtain ⟨f4, f1⟩ := HAll W0 hW; go_simp; rfl); (go_simp; refine hK _ _ ?_; clear hK K))
  refine mix_do rfl rfl ?_
  rintro W0 ⟨m3, rfl⟩
  refine ⟨.pointer (some ⟨(w1.drewN m3).heap.size, 0, none⟩), (w1.drewN m3).alloc (.cells #[.int .i64 0, .int .i64 0, .int .i64 0] 102), by go_simp, ?_⟩
  have H2 := hid_mk (show Blk ((w1.drewN m3).alloc (.cells #[.int .i64 0, .int .i64 0, .int .i64 0] 102)) (w1.drewN m3).heap.size #[.int .i64 0, .int .i64 0, .int .i64 0] 102 ∧ w1.grownBy ((w1.drewN m3).alloc (.cells #[.int .i64 0, .int .i64 0, .int .i64 0] 102)) none ∧ w1.heap.size ≤ (w1.drewN m3).heap.size from ⟨heap_alloc_new _ _, grown_trans (grown_drewN w1 m3 none) (World.grownBy_alloc _ _ none), Nat.le_refl _⟩)
  generalize ((w1.drewN m3).alloc (.cells #[.int .i64 0, .int .i64 0, .int .i64 0] 102)) = w2 at *
  generalize (w1.drewN m3).heap.size = f at *
  refine ⟨at0 w2 (fun W => w1.grownBy W (some m.bm)), ⟨0, rfl⟩, shut_at0 (fun mm => grown_any (grown_trans H2.out.2.1 (grown_drewN _ mm none)) _), fun _ h => h, ?_⟩
  refine mix_st rfl rfl ?_
  rintro W0 ⟨m4, rfl⟩
  have hdm := map_shrink ((HD.out.kept H2.out.2.1).kept (grown_drewN w2 m4 none)).dir
  obtain ⟨w3, hrun, hown3, hturn3⟩ := World.ownsMap.store hdm law3 Try.underlying61 (by unfold maxLen; omega) (hkey3 m.ap (by omega)) (ptrR_some f)
  refine ⟨w3, by simp [execOp, Act.eval, Act.put, hrun, Result.andThen], ?_⟩
  have hg3 : w1.grownBy w3 (some m.bm) := grown_trans (grown_any (grown_trans H2.out.2.1 (grown_drewN _ m4 none)) _) hturn3.grown
  have H3 := hid_mk (show IsM w3 (Up Zb w1) b { m with N := m.ss.length + 1, ss := m.ss ++ [⟨m.ap, 0, 0, 0, f⟩] } ∧ Blk w3 q #[.int .i64 cm.k, .int .i64 cm.s, .int .i64 cm.q, .int .i64 cm.t, .slice da cm.d.length dc] 104 ∧ Blk w3 qr #[.int .i64 0, .int .i64 0, .int .i64 0] 52 ∧ Own w3 B (.slice da cm.d.length dc) cm.d ∧ Keeps Zb w w3 ∧ w1.grownBy w3 (some m.bm) from
    ⟨HD.out.opened HK.out.2.2.1 f (grown_trans H2.out.2.1 (grown_drewN _ m4 none)) H2.out.2.2 H2.out.1 hturn3.grown hown3, HB.out.1.kept hg3 (by simpa using map_ne HB.out.1 HD.out.dir), HB.out.2.1.kept hg3 (by simpa using map_ne HB.out.2.1 HD.out.dir), owns_kept (owns_kept HM.out.2.1 HB.out.2.2 (fun _ _ _ => by simp)) hg3 (fun g c hh => by simpa using map_ne hh HD.out.dir), (Keeps.of_none HB.out.2.2).thenZ (Keeps.one hg3 HD.out.zm), hg3⟩)
  clear hdm hrun hown3 hturn3 hg3 H2
  refine ⟨at0 w3 (fun W => w1.grownBy W (some m.bm)), ⟨0, rfl⟩, shut_at0 (fun mm => grown_trans H3.out.2.2.2.2.2 (grown_drewN _ mm _)), fun _ h => h, ?_⟩
  refine mix_nil ?_
  rintro W ⟨m5, rfl⟩
  have H4 := hid_mk (show IsM (w3.drewN m5) (Up Zb w1) b { m with N := m.ss.length + 1, ss := m.ss ++ [⟨m.ap, 0, 0, 0, f⟩] } ∧ Blk (w3.drewN m5) q #[.int .i64 cm.k, .int .i64 cm.s, .int .i64 cm.q, .int .i64 cm.t, .slice da cm.d.length dc] 104 ∧ Blk (w3.drewN m5) qr #[.int .i64 0, .int .i64 0, .int .i64 0] 52 ∧ Own (w3.drewN m5) B (.slice da cm.d.length dc) cm.d ∧ Keeps Zb w (w3.drewN m5) ∧ w1.heap.size ≤ (w3.drewN m5).heap.size from
    ⟨H3.out.1.kept (grown_drewN _ _ none), H3.out.2.1, H3.out.2.2.1, owns_kept H3.out.2.2.2.1 (grown_drewN _ _ none) (fun _ _ _ => by simp), H3.out.2.2.2.2.1.thenZ (Keeps.of_none (grown_drewN _ _ none)), H3.out.2.2.2.2.2.size⟩)
  generalize w3.drewN m5 = w4 at *
  clear H3 HAll
  have HA4 : ∀ mm, (w4.drewN mm).cell? ⟨b, 1, none⟩ = some (.int .i64 m.ap) := fun mm => (H4.out.1.kept (grown_drewN w4 mm none)).cells.2.1
  go_upto_region 8 with fail
  refine wp_region_mix [(0, true), (1, true), (2, true), (3, true), (4, true), (5, true), (6, true), (7, true), (8, true), (9, false), (10, true), (11, false)] (at0 w4 (fun W => W.cell? ⟨b, 1, none⟩ = some (.int .i64 m.ap))) (by kernel_rfl) (by kernel_rfl) rfl (by kernel_rfl) (shut_at0 HA4) ⟨1, rfl⟩ ?_
  repeat (refine mix_rd1 rfl rfl (fun K hK => ?_); apply Exists.intro; refine ⟨fun W0 hW => ?_, ?_⟩; (have f1 : W0.cell? ⟨b, 1, none⟩ = some (.int .i64 m.ap) := hW; go_simp; rfl); (go_simp; refine hK _ _ ?_; clear hK K))
  refine mix_st rfl rfl ?_
  rintro W0 ⟨m6, rfl⟩
  have c1 : (w4.drewN m6).cell? ⟨q, 1, none⟩ = some (.int .i64 cm.s) := by rw [(H4.out.2.1.kept (grown_drewN w4 m6 none) (by simp)).cell]; rfl
  have cf := fun j => (H4.out.2.1.kept (grown_drewN w4 m6 none) (by simp)).frozen j
  refine ⟨(w4.drewN m6).setCell ⟨q, 1, none⟩ (.int .i64 m.ap), by go_simp, ?_⟩
  have g5 : w4.grownBy ((w4.drewN m6).setCell ⟨q, 1, none⟩ (.int .i64 m.ap)) (some q) := grown_trans (grown_drewN _ _ _) (grown_setCell _ _ _ _)
  have hqw : w.heap.size ≤ q := by have := HQ.out.1; omega
  have hqrw : w.heap.size ≤ qr := by have := HQ.out.2; omega
  have H5 := hid_mk (show IsM ((w4.drewN m6).setCell ⟨q, 1, none⟩ (.int .i64 m.ap)) (Up Zb w1) b { m with N := m.ss.length + 1, ss := m.ss ++ [⟨m.ap, 0, 0, 0, f⟩] } ∧ Blk ((w4.drewN m6).setCell ⟨q, 1, none⟩ (.int .i64 m.ap)) q #[.int .i64 cm.k, .int .i64 m.ap, .int .i64 cm.q, .int .i64 cm.t, .slice da cm.d.length dc] 104 ∧ Blk ((w4.drewN m6).setCell ⟨q, 1, none⟩ (.int .i64 m.ap)) qr #[.int .i64 0, .int .i64 0, .int .i64 0] 52 ∧ Own ((w4.drewN m6).setCell ⟨q, 1, none⟩ (.int .i64 m.ap)) B (.slice da cm.d.length dc) cm.d ∧ Keeps Zb w ((w4.drewN m6).setCell ⟨q, 1, none⟩ (.int .i64 m.ap)) ∧ w1.heap.size ≤ ((w4.drewN m6).setCell ⟨q, 1, none⟩ (.int .i64 m.ap)).heap.size from
    ⟨H4.out.1.other H4.out.2.1 (by decide) (by decide) (by decide) (by decide) g5, (H4.out.2.1.kept (grown_drewN w4 m6 none) (by simp)).set 1 (.int .i64 m.ap), H4.out.2.2.1.kept g5 (ne_tag H4.out.2.2.1 H4.out.2.1 (by decide)), owns_kept H4.out.2.2.2.1 g5 (fun g c hh => ne_tag hh H4.out.2.1 (by decide)), H4.out.2.2.2.2.1.new g5 hqw, Nat.le_trans H4.out.2.2.2.2.2 g5.size⟩)
  generalize ((w4.drewN m6).setCell ⟨q, 1, none⟩ (.int .i64 m.ap)) = w5 at *
  clear c1 cf g5
  have HA5 : ∀ mm, (w5.drewN mm).cell? ⟨b, 1, none⟩ = some (.int .i64 m.ap) := fun mm => (H5.out.1.kept (grown_drewN w5 mm none)).cells.2.1
  refine ⟨at0 w5 (fun W => W.cell? ⟨b, 1, none⟩ = some (.int .i64 m.ap)), ⟨0, rfl⟩, shut_at0 HA5, fun _ h => h, ?_⟩
  repeat (refine mix_rd1 rfl rfl (fun K hK => ?_); apply Exists.intro; refine ⟨fun W0 hW => ?_, ?_⟩; (have f1 : W0.cell? ⟨b, 1, none⟩ = some (.int .i64 m.ap) := hW; go_simp; rfl); (go_simp; refine hK _ _ ?_; clear hK K))
  refine mix_st rfl rfl ?_
  rintro W0 ⟨m7, rfl⟩
  have c1 : (w5.drewN m7).cell? ⟨qr, 1, none⟩ = some (.int .i64 0) := by rw [(H5.out.2.2.1.kept (grown_drewN w5 m7 none) (by simp)).cell]; rfl
  have cf := fun j => (H5.out.2.2.1.kept (grown_drewN w5 m7 none) (by simp)).frozen j
  refine ⟨(w5.drewN m7).setCell ⟨qr, 1, none⟩ (.int .i64 m.ap), by go_simp, ?_⟩
  have g6 : w5.grownBy ((w5.drewN m7).setCell ⟨qr, 1, none⟩ (.int .i64 m.ap)) (some qr) := grown_trans (grown_drewN _ _ _) (grown_setCell _ _ _ _)
  have H6 := hid_mk (show IsM ((w5.drewN m7).setCell ⟨qr, 1, none⟩ (.int .i64 m.ap)) (Up Zb w1) b { m with N := m.ss.length + 1, ss := m.ss ++ [⟨m.ap, 0, 0, 0, f⟩] } ∧ Blk ((w5.drewN m7).setCell ⟨qr, 1, none⟩ (.int .i64 m.ap)) q #[.int .i64 cm.k, .int .i64 m.ap, .int .i64 cm.q, .int .i64 cm.t, .slice da cm.d.length dc] 104 ∧ Blk ((w5.drewN m7).setCell ⟨qr, 1, none⟩ (.int .i64 m.ap)) qr #[.int .i64 0, .int .i64 m.ap, .int .i64 0] 52 ∧ Own ((w5.drewN m7).setCell ⟨qr, 1, none⟩ (.int .i64 m.ap)) B (.slice da cm.d.length dc) cm.d ∧ Keeps Zb w ((w5.drewN m7).setCell ⟨qr, 1, none⟩ (.int .i64 m.ap)) ∧ w1.heap.size ≤ ((w5.drewN m7).setCell ⟨qr, 1, none⟩ (.int .i64 m.ap)).heap.size from
    ⟨H5.out.1.other H5.out.2.2.1 (by decide) (by decide) (by decide) (by decide) g6, H5.out.2.1.kept g6 (ne_tag H5.out.2.1 H5.out.2.2.1 (by decide)), (H5.out.2.2.1.kept (grown_drewN w5 m7 none) (by simp)).set 1 (.int .i64 m.ap), owns_kept H5.out.2.2.2.1 g6 (fun g c hh => ne_tag hh H5.out.2.2.1 (by decide)), H5.out.2.2.2.2.1.new g6 hqrw, Nat.le_trans H5.out.2.2.2.2.2 g6.size⟩)
  generalize ((w5.drewN m7).setCell ⟨qr, 1, none⟩ (.int .i64 m.ap)) = w6 at *
  clear c1 cf g6
  have HA6 : ∀ mm, (w6.drewN mm).cell? ⟨b, 1, none⟩ = some (.int .i64 m.ap) := fun mm => (H6.out.1.kept (grown_drewN w6 mm none)).cells.2.1
  refine ⟨at0 w6 (fun W => W.cell? ⟨b, 1, none⟩ = some (.int .i64 m.ap)), ⟨0, rfl⟩, shut_at0 HA6, fun _ h => h, ?_⟩
  refine mix_nil ?_
  rintro W ⟨m8, rfl⟩
  have H7 := hid_mk (show IsM (w6.drewN m8) (Up Zb w1) b { m with N := m.ss.length + 1, ss := m.ss ++ [⟨m.ap, 0, 0, 0, f⟩] } ∧ Blk (w6.drewN m8) q #[.int .i64 cm.k, .int .i64 m.ap, .int .i64 cm.q, .int .i64 cm.t, .slice da cm.d.length dc] 104 ∧ Blk (w6.drewN m8) qr #[.int .i64 0, .int .i64 m.ap, .int .i64 0] 52 ∧ Own (w6.drewN m8) B (.slice da cm.d.length dc) cm.d ∧ Keeps Zb w (w6.drewN m8) ∧ w1.heap.size ≤ (w6.drewN m8).heap.size from
    ⟨H6.out.1.kept (grown_drewN _ _ none), H6.out.2.1, H6.out.2.2.1, owns_kept H6.out.2.2.2.1 (grown_drewN _ _ none) (fun _ _ _ => by simp), H6.out.2.2.2.2.1.thenZ (Keeps.of_none (grown_drewN _ _ none)), H6.out.2.2.2.2.2⟩)
  generalize w6.drewN m8 = w7 at *
  clear H6 H5 H4 HA4 HA5 HA6
  have c0 : w7.cell? ⟨q, 0, none⟩ = some (.int .i64 1) := by rw [H7.out.2.1.cell]; show some (Value.int .i64 (cm.k : Int)) = _; rw [HK.out.1]; rfl
  have c1 : w7.cell? ⟨q, 1, none⟩ = some (.int .i64 m.ap) := by rw [H7.out.2.1.cell]; rfl
  have c2 : w7.cell? ⟨q, 2, none⟩ = some (.int .i64 0) := by rw [H7.out.2.1.cell]; show some (Value.int .i64 (cm.q : Int)) = _; rw [HK.out.2.2.2]; rfl
  have c3 : w7.cell? ⟨q, 3, none⟩ = some (.int .i64 cm.t) := by rw [H7.out.2.1.cell]; rfl
  have c4 : w7.cell? ⟨q, 4, none⟩ = some (.slice da cm.d.length dc) := by rw [H7.out.2.1.cell]; rfl
  have hs7 : sesAt (m.ss ++ [⟨m.ap, 0, 0, 0, f⟩]) m.ap = some ⟨m.ap, 0, 0, 0, f⟩ := sesAt_end (s := ⟨m.ap, 0, 0, 0, f⟩) HK.out.2.2.1
  have h2 : Hid (cmdV { cm with s := m.ap } (.slice da cm.d.length dc) = .agg #[.int .i64 1, .int .i64 m.ap, .int .i64 0, .int .i64 cm.t, .slice da cm.d.length dc]) := hid_mk (by unfold cmdV; simp only; rw [HK.out.1, HK.out.2.2.2]; rfl)
  have e1 : Hid (putR { m with N := m.ss.length + 1, ss := m.ss ++ [⟨m.ap, 0, 0, 0, f⟩] } { cm with s := m.ap } = (0, 0)) := hid_mk (by unfold putR; simp only; rw [hs7]; simp only; rw [HK.out.2.2.2]; rfl)
  have e2 : Hid (putS { m with N := m.ss.length + 1, ss := m.ss ++ [⟨m.ap, 0, 0, 0, f⟩] } { cm with s := m.ap } = m.ss ++ [⟨m.ap, 0, 0, m.ap, f⟩]) := hid_mk (by unfold putS; simp only; rw [hs7]; simp only; rw [HK.out.2.2.2]; simp only [Nat.le_refl, if_true]; exact updS_end (s := ⟨m.ap, 0, 0, 0, f⟩) HK.out.2.2.1 rfl)
  have e3 : Hid (putL { m with N := m.ss.length + 1, ss := m.ss ++ [⟨m.ap, 0, 0, 0, f⟩] } { cm with s := m.ap } = m.rs.map Prod.snd) := hid_mk (by unfold putL adds; simp only; rw [hs7]; simp only; rw [HK.out.2.2.2]; rfl)
  have hqr1 : Hid (¬ Up Zb w1 qr) := hid_mk (fun hh => by
    rcases hh with hh | hh
    · rw [HZ.out] at hh
      have := hh.2
      omega
    · have := HB.out.2.1.lt
      omega)
  have HP := hid_mk (put_any w7 (Up Zb w1) b _ { cm with s := m.ap } da dc H7.out.1 hap (by show cm.q ≤ _; rw [HK.out.2.2.2]; omega) hd hl B H7.out.2.2.2.1 (fun k e => .inl (by rw [HZ.out]; exact HM.out.2.2 k e)))
  rw [h2.out] at HP
  clear hs7
  go_wp2_with fail
  refine HP.out.mono ?_
  rintro e w8 ⟨rv', rs', rfl, hM2, hrs, hK2⟩
  rw [e1.out]
  rw [e2.out] at hM2
  rw [e3.out] at hrs
  have H8 := hid_mk (show IsM w8 (Up Z w) b { m with N := m.ss.length + 1, ss := m.ss ++ [⟨m.ap, 0, 0, m.ap, f⟩], rv := rv', rs := rs' } ∧ rs'.map Prod.snd = m.rs.map Prod.snd ∧ Keeps Z w w8 ∧ Blk w8 qr #[.int .i64 0, .int .i64 m.ap, .int .i64 0] 52 by
    have hw1 := HB.out.2.2.size
    refine ⟨hM2.wide (fun k hk => ?_), hrs, ?_, H7.out.2.2.1.keeps hK2 hqr1.out⟩
    · rcases hk with (hk | hk) | hk
      · rw [HZ.out] at hk; exact .inl hk.1
      · exact .inr (Nat.le_trans hw1 hk)
      · exact .inr (Nat.le_trans (Nat.le_trans hw1 H7.out.2.2.2.2.2) hk)
    · have k1 : Keeps Zb w w8 := H7.out.2.2.2.2.1.trans hK2 (fun i hi hn hh => by rcases hh with hh | hh; exact hn hh; omega)
      exact k1.mono (fun k hk => by rw [HZ.out] at hk; exact hk.1))
  clear hM2 hrs hK2 HP h2 c0 c1 c2 c3 c4 e1 e2 e3 H7
  have r0 : w8.cell? ⟨qr, 0, none⟩ = some (.int .i64 0) := by rw [H8.out.2.2.2.cell]; rfl
  have r1 : w8.cell? ⟨qr, 1, none⟩ = some (.int .i64 m.ap) := by rw [H8.out.2.2.2.cell]; rfl
  have r2 : w8.cell? ⟨qr, 2, none⟩ = some (.int .i64 0) := by rw [H8.out.2.2.2.cell]; rfl
  have rf := fun j => H8.out.2.2.2.frozen j
  have g3 : w8.grownBy ((w8.setCell ⟨qr, 2, none⟩ (.int .i64 0)).setCell ⟨qr, 0, none⟩ (.int .i64 0)) (some qr) := grown_trans (grown_setCell _ _ _ _) (grown_setCell _ _ _ _)
  have H9 := hid_mk (show Blk ((w8.setCell ⟨qr, 2, none⟩ (.int .i64 0)).setCell ⟨qr, 0, none⟩ (.int .i64 0)) qr #[.int .i64 0, .int .i64 m.ap, .int .i64 0] 52 ∧ w8.grownBy ((w8.setCell ⟨qr, 2, none⟩ (.int .i64 0)).setCell ⟨qr, 0, none⟩ (.int .i64 0)) (some qr) from ⟨(H8.out.2.2.2.set 2 (.int .i64 0)).set 0 (.int .i64 0), g3⟩)
  clear g3
  go_upto_region 11 with fail
  generalize ((w8.setCell ⟨qr, 2, none⟩ (.int .i64 0)).setCell ⟨qr, 0, none⟩ (.int .i64 0)) = w9 at *
  clear r0 r1 r2 rf
  have r0 : w9.cell? ⟨qr, 0, none⟩ = some (.int .i64 0) := by rw [H9.out.1.cell]; rfl
  have r1 : w9.cell? ⟨qr, 1, none⟩ = some (.int .i64 m.ap) := by rw [H9.out.1.cell]; rfl
  have r2 : w9.cell? ⟨qr, 2, none⟩ = some (.int .i64 0) := by rw [H9.out.1.cell]; rfl
  have rf := fun j => H9.out.1.frozen j
  have HT := hid_mk (show Blk (((w9.setCell ⟨qr, 0, none⟩ (.int .i64 0)).setCell ⟨qr, 1, none⟩ (.int .i64 m.ap)).setCell ⟨qr, 2, none⟩ (.int .i64 0)) qr #[.int .i64 0, .int .i64 m.ap, .int .i64 0] 52 ∧ w8.grownBy (((w9.setCell ⟨qr, 0, none⟩ (.int .i64 0)).setCell ⟨qr, 1, none⟩ (.int .i64 m.ap)).setCell ⟨qr, 2, none⟩ (.int .i64 0)) (some qr) from ⟨blk_laid3 H9.out.1 _ _ _, grown_trans H9.out.2 (grown_laid3 _ _ _ _ _)⟩)
  go_wp2_with fail
  generalize (((w9.setCell ⟨qr, 0, none⟩ (.int .i64 0)).setCell ⟨qr, 1, none⟩ (.int .i64 m.ap)).setCell ⟨qr, 2, none⟩ (.int .i64 0)) = wT at *
  have r0 : wT.cell? ⟨qr, 0, none⟩ = some (.int .i64 0) := by rw [HT.out.1.cell]; rfl
  have r1 : wT.cell? ⟨qr, 1, none⟩ = some (.int .i64 m.ap) := by rw [HT.out.1.cell]; rfl
  have r2 : wT.cell? ⟨qr, 2, none⟩ = some (.int .i64 0) := by rw [HT.out.1.cell]; rfl
  refine bodyPost_ret (v := .agg #[.int .i64 0, .int .i64 m.ap, .int .i64 0]) (by simp [results, Try.results58, go_sem, r0, r1, r2]) rfl ?_
  refine ⟨m.ss.length + 1, rv', rs', m.ss ++ [⟨m.ap, 0, 0, m.ap, f⟩], rfl, ?_, ⟨f, rfl⟩, H8.out.2.1, H8.out.2.2.1.new HT.out.2 hqrw⟩
  exact H8.out.1.other H8.out.2.2.2 (by decide) (by decide) (by decide) (by decide) HT.out.2

end Go.Proofs.Ytpncbehabfkhkaa.W
