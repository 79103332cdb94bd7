/- history: HistoryMore's walk. -/
import Derived.Test.YthbfjpaimnhpgabHWxb
namespace Go.Proofs.Ythbfjpaimnhpgab
open Go.RowKit Go.Maps
set_option linter.unusedVariables false
set_option linter.unusedSimpArgs false
set_option maxRecDepth 100000
attribute [local go_sem] Oper.semAt_some

set_option maxHeartbeats 8000000 in
theorem historyMore_walk {w : World} {v u : Value} {L : List CE} {o : List Int} {y : CE} (h : CsR w v L) (hl : L.length < 1099511627776) (hf : ∀ x ∈ L, FitC x) (ho : IntsR w u o) (hol : o.length ≤ 17592186044416) (hy : InC w y) (hyf : FitC y) :
    Calls Try.prog 3 #[v, u, .agg (calC y).toArray] w fun e w' => e = .returned (.bool true) ∧ w.grownBy w' none := by
  obtain ⟨va, vc, rfl⟩ := h.len
  obtain ⟨ua, uc, rfl⟩ := ho.len
  obtain ⟨⟨da, dn, dc, hda⟩, ⟨ra, rn, rc, hra⟩⟩ := hy.sl
  have HL := hid_mk (And.intro h (And.intro (Nat.le_of_lt hl) (And.intro hf (And.intro ho (And.intro hol (And.intro hy (And.intro hyf hl)))))))
  have HYS := hid_mk (And.intro hda hra)
  have hcy : (calC y).toArray = #[.int .i64 y.g.c, .int .i64 y.g.b, .int .i64 y.g.e, .int .i64 y.g.k, .int .i64 y.g.at', .bool y.g.an, .int .i64 y.g.fr, .int .i64 y.g.mo, .int .i64 y.g.nu, .int .i64 y.g.st, .slice da dn dc, .slice ra rn rc] := by unfold calC; rw [hda, hra]
  rw [hcy]
  have HA := hid_mk (show Blk (w.alloc (.cells #[.int .i64 y.g.c, .int .i64 y.g.b, .int .i64 y.g.e, .int .i64 y.g.k, .int .i64 y.g.at', .bool y.g.an, .int .i64 y.g.fr, .int .i64 y.g.mo, .int .i64 y.g.nu, .int .i64 y.g.st, .slice da dn dc, .slice ra rn rc] 27)) w.heap.size #[.int .i64 y.g.c, .int .i64 y.g.b, .int .i64 y.g.e, .int .i64 y.g.k, .int .i64 y.g.at', .bool y.g.an, .int .i64 y.g.fr, .int .i64 y.g.mo, .int .i64 y.g.nu, .int .i64 y.g.st, .slice da dn dc, .slice ra rn rc] 27 ∧ w.grownBy (w.alloc (.cells #[.int .i64 y.g.c, .int .i64 y.g.b, .int .i64 y.g.e, .int .i64 y.g.k, .int .i64 y.g.at', .bool y.g.an, .int .i64 y.g.fr, .int .i64 y.g.mo, .int .i64 y.g.nu, .int .i64 y.g.st, .slice da dn dc, .slice ra rn rc] 27)) none from ⟨heap_alloc_new _ _, World.grownBy_alloc _ _ none⟩)
  clear h hl hf ho hol hy hyf hda hra hcy
  go_enter Try.func3, Try.ntmps3
  go_upto_region 1 with fail
  generalize w.alloc (.cells #[.int .i64 y.g.c, .int .i64 y.g.b, .int .i64 y.g.e, .int .i64 y.g.k, .int .i64 y.g.at', .bool y.g.an, .int .i64 y.g.fr, .int .i64 y.g.mo, .int .i64 y.g.nu, .int .i64 y.g.st, .slice da dn dc, .slice ra rn rc] 27) = w1 at *
  obtain ⟨q, hq⟩ : ∃ q, q = w.heap.size := ⟨_, rfl⟩
  rw [← hq] at HA ⊢
  have HQ := hid_mk (show w.heap.size ≤ q by omega)
  clear hq
  go_wp2_with fail
  refine (own_any (HL.out.1.kept HA.out.2) HL.out.2.1 HL.out.2.2.1).mono ?_
  rintro e w2 ⟨v2, L2, rfl, hoc, hoe, hgs, hg⟩
  obtain ⟨oa, occ, rfl⟩ := hoc.len
  have hl2 : L2.length = L.length := by have := congrArg List.length hgs; simpa [gs] using this
  have H2 := hid_mk (show CsR w2 (.slice oa L2.length occ) L2 ∧ L2.length ≤ 1099511627776 ∧ (∀ x ∈ L2, x.R.length ≤ 5864062014805) ∧ gs L2 = gs L ∧ w1.grownBy w2 none from ⟨hoc.red (fun x hx => (hoe x hx).1.inC), by rw [hl2]; exact HL.out.2.1, fun x hx => (hoe x hx).2, hgs, hg⟩)
  clear hoc hoe hgs hg hl2
  go_wp2_with fail
  refine (legal_any H2.out.1 H2.out.2.1 H2.out.2.2.1 (HL.out.2.2.2.1.kept (grown_trans HA.out.2 H2.out.2.2.2.2)) HL.out.2.2.2.2.1).mono ?_
  rintro e w3 ⟨rfl, hg⟩
  rw [H2.out.2.2.2.1]
  have H3 := hid_mk (show w1.grownBy w3 none from grown_trans H2.out.2.2.2.2 hg)
  clear hg H2
  obtain ⟨P, hP⟩ : ∃ P, P = legalG (gs L) o := ⟨_, rfl⟩
  rw [← hP]
  have HP := hid_mk hP
  clear hP
  unfold legV
  go_wp2_with fail
  refine (num_any _ w3).mono ?_
  rintro e w3 ⟨rfl, rfl⟩
  by_cases hp0 : P.2 = 0
  rotate_left
  · have hp1 : (P.2 != 0) = true := by simpa using hp0
    go_wp2_with fail
    refine (knows_any w3).mono ?_
    rintro e wk ⟨rfl, hg⟩
    have HK := hid_mk (grown_trans (grown_trans HA.out.2 H3.out) hg)
    clear hg
    go_wp2_with fail
    go_ret
    exact ⟨rfl, HK.out⟩

  · rw [hp0]
    have HP0 := hid_mk hp0
    clear hp0
    have hb1 := HA.out.1.kept H3.out (row := none) (by simp)
    have HB1 := hid_mk hb1
    have e5 : w3.cell? ⟨q, 5, none⟩ = some (.bool y.g.an) := hb1.cell 5
    have z5 := hb1.frozen 5
    clear hb1
    go_upto_region 5 with fail
    clear e5 z5
    have hb2 := HB1.out.set 5 (.bool false)
    have hg2 : w3.grownBy (w3.setCell ⟨q, 5, none⟩ (.bool false)) (some q) := grown_setCell _ _ _ _
    have HB2 := hid_mk (show Blk (w3.setCell ⟨q, 5, none⟩ (.bool false)) q #[.int .i64 y.g.c, .int .i64 y.g.b, .int .i64 y.g.e, .int .i64 y.g.k, .int .i64 y.g.at', .bool false, .int .i64 y.g.fr, .int .i64 y.g.mo, .int .i64 y.g.nu, .int .i64 y.g.st, .slice da dn dc, .slice ra rn rc] 27 ∧ w3.grownBy (w3.setCell ⟨q, 5, none⟩ (.bool false)) (some q) from ⟨by simpa using hb2, hg2⟩)
    clear hb2 hg2
    generalize w3.setCell ⟨q, 5, none⟩ (.bool false) = w4 at *
    have e0 : w4.cell? ⟨q, 0, none⟩ = some (.int .i64 y.g.c) := HB2.out.1.cell 0
    have z0 := HB2.out.1.frozen 0
    go_upto_region 6 with fail
    clear e0 z0
    have hb2 := HB2.out.1.set 0 (.int .i64 0)
    have hg2 : w4.grownBy (w4.setCell ⟨q, 0, none⟩ (.int .i64 0)) (some q) := grown_setCell _ _ _ _
    have HB3 := hid_mk (show Blk (w4.setCell ⟨q, 0, none⟩ (.int .i64 0)) q #[.int .i64 0, .int .i64 y.g.b, .int .i64 y.g.e, .int .i64 y.g.k, .int .i64 y.g.at', .bool false, .int .i64 y.g.fr, .int .i64 y.g.mo, .int .i64 y.g.nu, .int .i64 y.g.st, .slice da dn dc, .slice ra rn rc] 27 ∧ w.grownBy (w4.setCell ⟨q, 0, none⟩ (.int .i64 0)) none from ⟨by simpa using hb2, grown_new (grown_new (grown_trans HA.out.2 H3.out) HB2.out.2 HQ.out) hg2 HQ.out⟩)
    clear hb2 hg2
    generalize w4.setCell ⟨q, 0, none⟩ (.int .i64 0) = w5 at *
    clear HB1 HB2 H3 HA
    have hlb : L.length ≤ 1099511627776 := HL.out.2.1
    go_wp2_with fail
    go_loopw [9] (fun iv wr => ∃ (k : Nat), k ≤ L.length ∧ iv = .int .i64 k ∧ Hid (w.grownBy wr none ∧ ∃ M : Int, 0 ≤ M ∧ Blk wr q #[.int .i64 M, .int .i64 y.g.b, .int .i64 y.g.e, .int .i64 y.g.k, .int .i64 y.g.at', .bool false, .int .i64 y.g.fr, .int .i64 y.g.mo, .int .i64 y.g.nu, .int .i64 y.g.st, .slice da dn dc, .slice ra rn rc] 27)) (fun iv _ => L.length - (intOf iv).toNat)
    case atStart => exact ⟨0, Nat.zero_le _, rfl, hid_mk ⟨HB3.out.2, 0, by omega, HB3.out.1⟩⟩
    case round =>
      obtain ⟨k, hk, rfl, H⟩ := hrel
      rename World => wr
      obtain ⟨M, hM0, hbM⟩ := H.out.2
      have HM := hid_mk (And.intro hM0 (And.intro hbM H.out.1))
      clear hM0 hbM H
      by_cases hkn : k < L.length
      · have hkn' : (k : Int) < L.length := by omega
        obtain ⟨b, off, cap, hbe, hbl, hcl⟩ := HL.out.1.get k hkn
        injection hbe with hbe _ _
        subst hbe
        have g0 := hcl 0 (.int .i64 (L[k].g.c)) rfl
        have HC0 : ∀ W, wr.grownBy W none → W.cell? ⟨q, 0, none⟩ = some (.int .i64 M) ∧ W.cell? ⟨b, off + (k * 12 + 0), none⟩ = some (.int .i64 (L[k].g.c)) ∧ W.frozen? ⟨q, 0, none⟩ = false := fun W hW => ⟨(HM.out.2.1.kept hW (by simp)).cell 0, (grown_trans HM.out.2.2 hW).cell g0 (by simp), (HM.out.2.1.kept hW (by simp)).frozen 0⟩
        clear hcl g0
        rw [Nat.add_zero] at HC0
        generalize L[k].g.c = C at *
        have HM2 := hid_mk (show 0 ≤ max M C by have := HM.out.1; omega)
        go_upto_region 9 with fail
        refine wp_region_mixL [(0, true), (1, true), (2, true), (3, true), (4, true), (5, true), (6, true), (7, true), (8, true)] 9 (at0 wr (fun W => wr.grownBy W none)) (by kernel_rfl) (by kernel_rfl) rfl (by kernel_rfl) rfl (by kernel_rfl) (shut_at0 (fun m => grown_drewN _ m none)) ⟨1, rfl⟩ ?_
        iterate 7 (refine mix_rd1 rfl rfl (fun K hK => ?_); apply Exists.intro; refine ⟨fun W hW => ?_, ?_⟩; (obtain ⟨x0, x1, x2⟩ := HC0 W hW; go_simp; rfl); (go_simp; refine hK _ _ ?_; clear hK K))
        refine mix_rd rfl rfl (.int .i64 (max M C)) (fun W hW => by go_simp) ?_
        (refine mix_rd1 rfl rfl (fun K hK => ?_); apply Exists.intro; refine ⟨fun W hW => ?_, ?_⟩; (obtain ⟨x0, x1, x2⟩ := HC0 W hW; go_simp; rfl); (go_simp; refine hK _ _ ?_; clear hK K))
        refine mix_nil ⟨rfl, ?_⟩
        rintro W ⟨mA, rfl⟩
        obtain ⟨x0, -, xf⟩ := HC0 (wr.drewN mA) (grown_drewN _ mA none)
        have hb2 := (HM.out.2.1.kept (grown_drewN wr mA none) (row := none) (by simp)).set 0 (.int .i64 (max M C))
        have hg2 : (wr.drewN mA).grownBy ((wr.drewN mA).setCell ⟨q, 0, none⟩ (.int .i64 (max M C))) (some q) := grown_setCell _ _ _ _
        have HN := hid_mk (show Blk ((wr.drewN mA).setCell ⟨q, 0, none⟩ (.int .i64 (max M C))) q #[.int .i64 (max M C), .int .i64 y.g.b, .int .i64 y.g.e, .int .i64 y.g.k, .int .i64 y.g.at', .bool false, .int .i64 y.g.fr, .int .i64 y.g.mo, .int .i64 y.g.nu, .int .i64 y.g.st, .slice da dn dc, .slice ra rn rc] 27 ∧ w.grownBy ((wr.drewN mA).setCell ⟨q, 0, none⟩ (.int .i64 (max M C))) none from ⟨by simpa using hb2, grown_new (grown_trans HM.out.2.2 (grown_drewN wr mA none)) hg2 HQ.out⟩)
        clear hb2 hg2
        refine ⟨_, by go_simp; rfl, ?_⟩
        clear x0 xf HC0
        generalize (wr.drewN mA).setCell ⟨q, 0, none⟩ (.int .i64 (max M C)) = wB at *
        go_wp2_with fail
        go_roundw
        case rel => exact ⟨k + 1, by omega, by first | rfl | (congr 1; done) | (congr 1; omega), hid_mk ⟨HN.out.2, (max M C), HM2.out, HN.out.1⟩⟩
        case measure => simp [intOf]; omega
      · have hkn' : ¬ (k : Int) < L.length := by omega
        have HCL : ∀ W, wr.grownBy W none → W.cell? ⟨q, 0, none⟩ = some (.int .i64 M) ∧ W.cell? ⟨q, 1, none⟩ = some (.int .i64 y.g.b) ∧ W.cell? ⟨q, 2, none⟩ = some (.int .i64 y.g.e) ∧ W.cell? ⟨q, 3, none⟩ = some (.int .i64 y.g.k) ∧ W.cell? ⟨q, 4, none⟩ = some (.int .i64 y.g.at') ∧ W.cell? ⟨q, 5, none⟩ = some (.bool false) ∧ W.cell? ⟨q, 6, none⟩ = some (.int .i64 y.g.fr) ∧ W.cell? ⟨q, 7, none⟩ = some (.int .i64 y.g.mo) ∧ W.cell? ⟨q, 8, none⟩ = some (.int .i64 y.g.nu) ∧ W.cell? ⟨q, 9, none⟩ = some (.int .i64 y.g.st) ∧ W.cell? ⟨q, 10, none⟩ = some (.slice da dn dc) ∧ W.cell? ⟨q, 11, none⟩ = some (.slice ra rn rc) := fun W hW => by
          have hh := HM.out.2.1.kept hW (row := none) (by simp)
          exact ⟨hh.cell 0, hh.cell 1, hh.cell 2, hh.cell 3, hh.cell 4, hh.cell 5, hh.cell 6, hh.cell 7, hh.cell 8, hh.cell 9, hh.cell 10, hh.cell 11⟩
        obtain ⟨x0, -⟩ := HCL wr (grown_refl _ _)
        go_upto_region 10 with fail
        clear x0
        have hM0 := HM.out.1
        by_cases hbig : (1152921504606846976 : Int) ≤ M
        · go_cut [61] (fun s wx => ∃ bb : Bool, s = .bool bb ∧ Hid (w.grownBy wx none ∧ wr.grownBy wx none ∧ (bb = false → M < 1152921504606846976 ∧ RightP (gs L ++ [((⟨⟨M + 1, y.g.b, 0, y.g.k, y.g.at', false, 0, 0, 0, 0, [], []⟩, .slice none 0 0, .slice none 0 0, []⟩ : CE)).g]))))
          case first =>
            refine wp_region_fork (X := fun _ _ _ => False) [(0, true), (1, true), (2, true), (3, true), (5, true), (7, true), (8, true), (9, true), (10, true), (11, true), (12, true), (13, true), (14, true), (15, true), (16, true)] 7 #[true, true, true, true, false, true, false, true, true, true, true, true, true, true, true, true, true, false, false, false, false, false] (clE wr wr) (by kernel_rfl) (by kernel_rfl) rfl (by kernel_rfl) (fun _ _ _ h => h.elim) (shut_at0 (fun mm => grown_drewN _ mm _)) ⟨1, rfl⟩ ?_
            repeat (first | (refine mix_rd1X rfl rfl (fun K hK => ?_); apply Exists.intro; refine ⟨fun W hW => ?_, ?_⟩; (obtain ⟨x0, x1, x2, x3, x4, x5, x6, x7, x8, x9, x10, x11⟩ := HCL W hW; go_simp; rfl); (go_simp; refine hK _ _ ?_; clear hK K)) | (refine mix_no1X rfl rfl (fun K hK => ?_); go_simp; refine hK _ _ ?_; clear hK K))
            refine mix_nilX ?_
            refine fork2 4 17 (by kernel_rfl) ?_ ?_
            · refine f_no rfl rfl ?_
              go_simp
              refine fork2 6 17 (by kernel_rfl) ?_ ?_
              · refine f_no rfl rfl ?_
                go_simp
                refine fork1 17 (by kernel_rfl) ?_
                refine f_no rfl rfl ?_
                go_simp
                refine fork1 18 (by kernel_rfl) ?_
                refine f_no rfl rfl ?_
                go_simp
                refine fork1 19 (by kernel_rfl) ?_
                refine f_no rfl rfl ?_
                go_simp
                refine fork1 20 (by kernel_rfl) ?_
                refine f_no rfl rfl ?_
                go_simp
                refine reads_first (by kernel_rfl) [(21, true)] 0 1 rfl _ #[true, true, true, true, true, true, true, true, true, true, true, true, true, true, true, true, true, true, true, true, true, true] (by kernel_rfl) ?_
                iterate 1 (refine mix_rd1X rfl rfl (fun K hK => ?_); apply Exists.intro; refine ⟨fun W hW => ?_, ?_⟩; (go_simp; rfl); (go_simp; refine hK _ _ ?_; clear hK K))
                refine mix_nilX ?_
                refine fork_end (by kernel_rfl) ?_
                rintro Wz ⟨mz, rfl⟩
                go_wp2_with fail
                go_meet
                case rel => exact ⟨true, rfl, hid_mk ⟨grown_trans HM.out.2.2 (grown_drewN wr mz none), grown_drewN wr mz none, fun hq => by cases hq⟩⟩
              · refine f_no rfl rfl ?_
                go_simp
                refine fork1 6 (by kernel_rfl) ?_
                refine f_no rfl rfl ?_
                go_simp
                refine fork1 18 (by kernel_rfl) ?_
                refine f_no rfl rfl ?_
                go_simp
                refine fork1 19 (by kernel_rfl) ?_
                refine f_no rfl rfl ?_
                go_simp
                refine fork1 20 (by kernel_rfl) ?_
                refine f_no rfl rfl ?_
                go_simp
                refine reads_first (by kernel_rfl) [(21, true)] 0 1 rfl _ #[true, true, true, true, true, true, true, true, true, true, true, true, true, true, true, true, true, true, true, true, true, true] (by kernel_rfl) ?_
                iterate 1 (refine mix_rd1X rfl rfl (fun K hK => ?_); apply Exists.intro; refine ⟨fun W hW => ?_, ?_⟩; (go_simp; rfl); (go_simp; refine hK _ _ ?_; clear hK K))
                refine mix_nilX ?_
                refine fork_end (by kernel_rfl) ?_
                rintro Wz ⟨mz, rfl⟩
                go_wp2_with fail
                go_meet
                case rel => exact ⟨true, rfl, hid_mk ⟨grown_trans HM.out.2.2 (grown_drewN wr mz none), grown_drewN wr mz none, fun hq => by cases hq⟩⟩
            · refine f_no rfl rfl ?_
              go_simp
              refine fork1 4 (by kernel_rfl) ?_
              refine f_no rfl rfl ?_
              go_simp
              refine fork1 6 (by kernel_rfl) ?_
              refine f_no rfl rfl ?_
              go_simp
              refine fork1 18 (by kernel_rfl) ?_
              refine f_no rfl rfl ?_
              go_simp
              refine fork1 19 (by kernel_rfl) ?_
              refine f_no rfl rfl ?_
              go_simp
              refine fork1 20 (by kernel_rfl) ?_
              refine f_no rfl rfl ?_
              go_simp
              refine reads_first (by kernel_rfl) [(21, true)] 0 1 rfl _ #[true, true, true, true, true, true, true, true, true, true, true, true, true, true, true, true, true, true, true, true, true, true] (by kernel_rfl) ?_
              iterate 1 (refine mix_rd1X rfl rfl (fun K hK => ?_); apply Exists.intro; refine ⟨fun W hW => ?_, ?_⟩; (go_simp; rfl); (go_simp; refine hK _ _ ?_; clear hK K))
              refine mix_nilX ?_
              refine fork_end (by kernel_rfl) ?_
              rintro Wz ⟨mz, rfl⟩
              go_wp2_with fail
              go_meet
              case rel => exact ⟨true, rfl, hid_mk ⟨grown_trans HM.out.2.2 (grown_drewN wr mz none), grown_drewN wr mz none, fun hq => by cases hq⟩⟩

          case rest =>
            obtain ⟨bb, rfl, HX⟩ := hcut
            rename World => w6
            cases bb with
            | false => have := (HX.out.2.2 rfl).1; omega
            | true =>
              go_wp2_with fail
              refine (knows_any w6).mono ?_
              rintro e wk ⟨rfl, hg⟩
              have HK := hid_mk (grown_trans HX.out.1 hg)
              clear hg
              go_wp2_with fail
              go_ret
              exact ⟨rfl, HK.out⟩
        · have hsm : M < 1152921504606846976 := by omega
          have hwM : IntKind.i64.wrap (M + 1) = M + 1 := by rw [IntKind.wrap_i64]; omega
          go_cut [61] (fun s wx => ∃ bb : Bool, s = .bool bb ∧ Hid (w.grownBy wx none ∧ wr.grownBy wx none ∧ (bb = false → M < 1152921504606846976 ∧ RightP (gs L ++ [((⟨⟨M + 1, y.g.b, 0, y.g.k, y.g.at', false, 0, 0, 0, 0, [], []⟩, .slice none 0 0, .slice none 0 0, []⟩ : CE)).g]))))
          case first =>
            refine wp_region_fork (X := fun _ _ _ => False) [(0, true), (1, true), (2, true), (3, true), (5, true), (7, true), (8, true), (9, true), (10, true), (11, true), (12, true), (13, true), (14, true), (15, true), (16, true)] 7 #[true, true, true, true, false, true, false, true, true, true, true, true, true, true, true, true, true, false, false, false, false, false] (clE wr wr) (by kernel_rfl) (by kernel_rfl) rfl (by kernel_rfl) (fun _ _ _ h => h.elim) (shut_at0 (fun mm => grown_drewN _ mm _)) ⟨1, rfl⟩ ?_
            iterate 15 (refine mix_rd1X rfl rfl (fun K hK => ?_); apply Exists.intro; refine ⟨fun W hW => ?_, ?_⟩; (obtain ⟨x0, x1, x2, x3, x4, x5, x6, x7, x8, x9, x10, x11⟩ := HCL W hW; go_simp; rfl); (go_simp; refine hK _ _ ?_; clear hK K))
            refine mix_nilX ?_
            refine fork2 4 17 (by kernel_rfl) ?_ ?_
            · refine f_empty (grown_refl wr none) rfl rfl (fun W => by go_simp) ?_
              intro K hK qe We HE0
              go_simp
              refine hK _ _ ?_
              clear hK K
              refine fork2 6 17 (by kernel_rfl) ?_ ?_
              · refine f_copy HE0.out.1 qe HE0.out.2.2.2 (.slice va L.length vc) L (HL.out.1.kept HM.out.2.2) HL.out.2.1 rfl rfl (.tmp 44) (.tmp 45) rfl rfl rfl ?_
                intro K hK ca cc Wp HC1
                go_simp
                refine hK _ _ ?_
                clear hK K
                refine fork1 17 (by kernel_rfl) ?_
                refine f_one HC1.out.1 #[.int .i64 (M + 1), .int .i64 y.g.b, .int .i64 0, .int .i64 y.g.k, .int .i64 y.g.at', .bool false, .int .i64 0, .int .i64 0, .int .i64 0, .int .i64 0, .slice none 0 0, .slice none 0 0] rfl rfl (fun W => by go_simp) ?_
                intro K hK qo Wo HO1
                go_simp
                refine hK _ _ ?_
                clear hK K
                have HOW := hid_mk (HC1.out.2.2.kept HO1.out.2.1)
                have HBL := hid_mk HO1.out.2.2.2
                have HGR := hid_mk HO1.out.1
                clear HE0 HC1 HO1
                generalize hWX : Wo = WX at *
                clear hWX
                refine fork1 18 (by kernel_rfl) ?_
                refine f_app HGR.out _ L HOW.out qo (⟨⟨M + 1, y.g.b, 0, y.g.k, y.g.at', false, 0, 0, 0, 0, [], []⟩, .slice none 0 0, .slice none 0 0, []⟩ : CE) HBL.out ⟨⟨_, _, _, rfl⟩, ⟨_, _, _, rfl⟩⟩ (by have := HL.out.2.2.2.2.2.2.2; omega) rfl rfl (.tmp 46) (.tmp 57) rfl rfl rfl ?_
                intro K hK xa xc WA HAP
                go_simp
                refine hK _ _ ?_
                clear hK K
                have HCS := hid_mk (HAP.out.2.red (fun z hz => by
                  rcases List.mem_append.1 hz with hz | hz
                  · exact (HL.out.1.ins z hz).kept (grown_trans HM.out.2.2 HAP.out.1)
                  · rw [List.mem_singleton.1 hz]; exact ⟨Byt.nil _, RecR.nil _, rfl⟩))
                refine fork1 19 (by kernel_rfl) ?_
                refine f_call HAP.out.1 8 #[.slice xa (L.length + 1) xc] (fun v _ _ => ∃ bb : Bool, v = .bool bb ∧ (bb = true ↔ RightP (gs (L ++ [(⟨⟨M + 1, y.g.b, 0, y.g.k, y.g.at', false, 0, 0, 0, 0, [], []⟩, .slice none 0 0, .slice none 0 0, []⟩ : CE)])))) rfl rfl (fun W => by go_simp) (fun W1 hW1 => (rright_any (HCS.out.kept hW1) (by rw [List.length_append]; have := HL.out.2.2.2.2.2.2.2; simp; omega)).mono (by
                  rintro e W' ⟨⟨bb, rfl, hbb⟩, hg⟩
                  exact ⟨_, rfl, ⟨bb, rfl, hbb⟩, hg⟩)) ?_
                intro K hK vv W1 WR HR0
                obtain ⟨hg1, -, -, bb, hvv, hbb⟩ := HR0.out
                subst hvv
                have HRB := hid_mk (And.intro hg1 hbb)
                clear hg1 hbb HR0
                go_simp
                refine hK _ _ ?_
                clear hK K
                refine reads_first (by kernel_rfl) [(20, true), (21, true)] 0 2 rfl _ #[true, true, true, true, true, true, true, true, true, true, true, true, true, true, true, true, true, true, true, true, true, true] (by kernel_rfl) ?_
                iterate 2 (refine mix_rd1X rfl rfl (fun K hK => ?_); apply Exists.intro; refine ⟨fun W hW => ?_, ?_⟩; (go_simp; rfl); (go_simp; refine hK _ _ ?_; clear hK K))
                refine mix_nilX ?_
                refine fork_end (by kernel_rfl) ?_
                rintro Wz ⟨mz, rfl⟩
                go_wp2_with fail
                go_meet
                case rel => exact ⟨!bb, rfl, hid_mk ⟨grown_trans HM.out.2.2 (grown_trans HRB.out.1 (grown_drewN WR mz none)), grown_trans HRB.out.1 (grown_drewN WR mz none), fun hq => ⟨by omega, by have h9 := HRB.out.2.1 (by simpa using hq); simpa [gs] using h9⟩⟩⟩
              · refine f_one HE0.out.1 #[.int .i64 (M + 1), .int .i64 y.g.b, .int .i64 0, .int .i64 y.g.k, .int .i64 y.g.at', .bool false, .int .i64 0, .int .i64 0, .int .i64 0, .int .i64 0, .slice none 0 0, .slice none 0 0] rfl rfl (fun W => by go_simp) ?_
                intro K hK qo Wo HO1
                go_simp
                refine hK _ _ ?_
                clear hK K
                refine fork1 6 (by kernel_rfl) ?_
                refine f_copy HO1.out.1 qe (HE0.out.2.2.2.kept HO1.out.2.1) (.slice va L.length vc) L (HL.out.1.kept HM.out.2.2) HL.out.2.1 rfl rfl (.tmp 44) (.tmp 45) rfl rfl rfl ?_
                intro K hK ca cc Wp HC1
                go_simp
                refine hK _ _ ?_
                clear hK K
                have HOW := hid_mk HC1.out.2.2
                have HBL := hid_mk (HO1.out.2.2.2.kept HC1.out.2.1 (by have h1 := (own_low HE0.out.2.2.2 qe rfl).2; obtain ⟨cc9, hc9⟩ := h1; have h2 := (Array.getElem?_eq_some_iff.1 hc9).1; have := HO1.out.2.2.1; intro e; injection e with e; omega))
                have HGR := hid_mk HC1.out.1
                clear HE0 HC1 HO1
                generalize hWX : Wp = WX at *
                clear hWX
                refine fork1 18 (by kernel_rfl) ?_
                refine f_app HGR.out _ L HOW.out qo (⟨⟨M + 1, y.g.b, 0, y.g.k, y.g.at', false, 0, 0, 0, 0, [], []⟩, .slice none 0 0, .slice none 0 0, []⟩ : CE) HBL.out ⟨⟨_, _, _, rfl⟩, ⟨_, _, _, rfl⟩⟩ (by have := HL.out.2.2.2.2.2.2.2; omega) rfl rfl (.tmp 46) (.tmp 57) rfl rfl rfl ?_
                intro K hK xa xc WA HAP
                go_simp
                refine hK _ _ ?_
                clear hK K
                have HCS := hid_mk (HAP.out.2.red (fun z hz => by
                  rcases List.mem_append.1 hz with hz | hz
                  · exact (HL.out.1.ins z hz).kept (grown_trans HM.out.2.2 HAP.out.1)
                  · rw [List.mem_singleton.1 hz]; exact ⟨Byt.nil _, RecR.nil _, rfl⟩))
                refine fork1 19 (by kernel_rfl) ?_
                refine f_call HAP.out.1 8 #[.slice xa (L.length + 1) xc] (fun v _ _ => ∃ bb : Bool, v = .bool bb ∧ (bb = true ↔ RightP (gs (L ++ [(⟨⟨M + 1, y.g.b, 0, y.g.k, y.g.at', false, 0, 0, 0, 0, [], []⟩, .slice none 0 0, .slice none 0 0, []⟩ : CE)])))) rfl rfl (fun W => by go_simp) (fun W1 hW1 => (rright_any (HCS.out.kept hW1) (by rw [List.length_append]; have := HL.out.2.2.2.2.2.2.2; simp; omega)).mono (by
                  rintro e W' ⟨⟨bb, rfl, hbb⟩, hg⟩
                  exact ⟨_, rfl, ⟨bb, rfl, hbb⟩, hg⟩)) ?_
                intro K hK vv W1 WR HR0
                obtain ⟨hg1, -, -, bb, hvv, hbb⟩ := HR0.out
                subst hvv
                have HRB := hid_mk (And.intro hg1 hbb)
                clear hg1 hbb HR0
                go_simp
                refine hK _ _ ?_
                clear hK K
                refine reads_first (by kernel_rfl) [(20, true), (21, true)] 0 2 rfl _ #[true, true, true, true, true, true, true, true, true, true, true, true, true, true, true, true, true, true, true, true, true, true] (by kernel_rfl) ?_
                iterate 2 (refine mix_rd1X rfl rfl (fun K hK => ?_); apply Exists.intro; refine ⟨fun W hW => ?_, ?_⟩; (go_simp; rfl); (go_simp; refine hK _ _ ?_; clear hK K))
                refine mix_nilX ?_
                refine fork_end (by kernel_rfl) ?_
                rintro Wz ⟨mz, rfl⟩
                go_wp2_with fail
                go_meet
                case rel => exact ⟨!bb, rfl, hid_mk ⟨grown_trans HM.out.2.2 (grown_trans HRB.out.1 (grown_drewN WR mz none)), grown_trans HRB.out.1 (grown_drewN WR mz none), fun hq => ⟨by omega, by have h9 := HRB.out.2.1 (by simpa using hq); simpa [gs] using h9⟩⟩⟩
            · refine f_one (grown_refl wr none) #[.int .i64 (M + 1), .int .i64 y.g.b, .int .i64 0, .int .i64 y.g.k, .int .i64 y.g.at', .bool false, .int .i64 0, .int .i64 0, .int .i64 0, .int .i64 0, .slice none 0 0, .slice none 0 0] rfl rfl (fun W => by go_simp) ?_
              intro K hK qo Wo HO1
              go_simp
              refine hK _ _ ?_
              clear hK K
              refine fork1 4 (by kernel_rfl) ?_
              refine f_empty HO1.out.1 rfl rfl (fun W => by go_simp) ?_
              intro K hK qe We HE0
              go_simp
              refine hK _ _ ?_
              clear hK K
              refine fork1 6 (by kernel_rfl) ?_
              refine f_copy HE0.out.1 qe HE0.out.2.2.2 (.slice va L.length vc) L (HL.out.1.kept HM.out.2.2) HL.out.2.1 rfl rfl (.tmp 44) (.tmp 45) rfl rfl rfl ?_
              intro K hK ca cc Wp HC1
              go_simp
              refine hK _ _ ?_
              clear hK K
              have HOW := hid_mk HC1.out.2.2
              have HBL := hid_mk ((HO1.out.2.2.2.kept HE0.out.2.1 (row := none) (by simp)).kept HC1.out.2.1 (by have h2 := HO1.out.2.2.2.lt; have := HE0.out.2.2.1; intro e; injection e with e; omega))
              have HGR := hid_mk HC1.out.1
              clear HE0 HC1 HO1
              generalize hWX : Wp = WX at *
              clear hWX
              refine fork1 18 (by kernel_rfl) ?_
              refine f_app HGR.out _ L HOW.out qo (⟨⟨M + 1, y.g.b, 0, y.g.k, y.g.at', false, 0, 0, 0, 0, [], []⟩, .slice none 0 0, .slice none 0 0, []⟩ : CE) HBL.out ⟨⟨_, _, _, rfl⟩, ⟨_, _, _, rfl⟩⟩ (by have := HL.out.2.2.2.2.2.2.2; omega) rfl rfl (.tmp 46) (.tmp 57) rfl rfl rfl ?_
              intro K hK xa xc WA HAP
              go_simp
              refine hK _ _ ?_
              clear hK K
              have HCS := hid_mk (HAP.out.2.red (fun z hz => by
                rcases List.mem_append.1 hz with hz | hz
                · exact (HL.out.1.ins z hz).kept (grown_trans HM.out.2.2 HAP.out.1)
                · rw [List.mem_singleton.1 hz]; exact ⟨Byt.nil _, RecR.nil _, rfl⟩))
              refine fork1 19 (by kernel_rfl) ?_
              refine f_call HAP.out.1 8 #[.slice xa (L.length + 1) xc] (fun v _ _ => ∃ bb : Bool, v = .bool bb ∧ (bb = true ↔ RightP (gs (L ++ [(⟨⟨M + 1, y.g.b, 0, y.g.k, y.g.at', false, 0, 0, 0, 0, [], []⟩, .slice none 0 0, .slice none 0 0, []⟩ : CE)])))) rfl rfl (fun W => by go_simp) (fun W1 hW1 => (rright_any (HCS.out.kept hW1) (by rw [List.length_append]; have := HL.out.2.2.2.2.2.2.2; simp; omega)).mono (by
                rintro e W' ⟨⟨bb, rfl, hbb⟩, hg⟩
                exact ⟨_, rfl, ⟨bb, rfl, hbb⟩, hg⟩)) ?_
              intro K hK vv W1 WR HR0
              obtain ⟨hg1, -, -, bb, hvv, hbb⟩ := HR0.out
              subst hvv
              have HRB := hid_mk (And.intro hg1 hbb)
              clear hg1 hbb HR0
              go_simp
              refine hK _ _ ?_
              clear hK K
              refine reads_first (by kernel_rfl) [(20, true), (21, true)] 0 2 rfl _ #[true, true, true, true, true, true, true, true, true, true, true, true, true, true, true, true, true, true, true, true, true, true] (by kernel_rfl) ?_
              iterate 2 (refine mix_rd1X rfl rfl (fun K hK => ?_); apply Exists.intro; refine ⟨fun W hW => ?_, ?_⟩; (go_simp; rfl); (go_simp; refine hK _ _ ?_; clear hK K))
              refine mix_nilX ?_
              refine fork_end (by kernel_rfl) ?_
              rintro Wz ⟨mz, rfl⟩
              go_wp2_with fail
              go_meet
              case rel => exact ⟨!bb, rfl, hid_mk ⟨grown_trans HM.out.2.2 (grown_trans HRB.out.1 (grown_drewN WR mz none)), grown_trans HRB.out.1 (grown_drewN WR mz none), fun hq => ⟨by omega, by have h9 := HRB.out.2.1 (by simpa using hq); simpa [gs] using h9⟩⟩⟩

          case rest =>
            obtain ⟨bb, rfl, HX⟩ := hcut
            rename World => w6
            cases bb with
            | true =>
              go_wp2_with fail
              refine (knows_any w6).mono ?_
              rintro e wk ⟨rfl, hg⟩
              have HK := hid_mk (grown_trans HX.out.1 hg)
              clear hg
              go_wp2_with fail
              go_ret
              exact ⟨rfl, HK.out⟩

            | false =>
              have hb6 := HM.out.2.1.kept HX.out.2.1 (row := none) (by simp)
              have HB6 := hid_mk hb6
              have e0 : w6.cell? ⟨q, 0, none⟩ = some (.int .i64 M) := hb6.cell 0
              have z0 := hb6.frozen 0
              clear hb6
              go_upto_region 13 with fail
              clear e0 z0
              have hb2 := HB6.out.set 0 (.int .i64 (M + 1))
              have hg2 : w6.grownBy (w6.setCell ⟨q, 0, none⟩ (.int .i64 (M + 1))) (some q) := grown_setCell _ _ _ _
              have HM7 := hid_mk (show True ∧ Blk (w6.setCell ⟨q, 0, none⟩ (.int .i64 (M + 1))) q #[.int .i64 (M + 1), .int .i64 y.g.b, .int .i64 y.g.e, .int .i64 y.g.k, .int .i64 y.g.at', .bool false, .int .i64 y.g.fr, .int .i64 y.g.mo, .int .i64 y.g.nu, .int .i64 y.g.st, .slice da dn dc, .slice ra rn rc] 27 ∧ w.grownBy (w6.setCell ⟨q, 0, none⟩ (.int .i64 (M + 1))) none from ⟨trivial, by simpa using hb2, grown_new HX.out.1 hg2 HQ.out⟩)
              clear hb2 hg2
              generalize w6.setCell ⟨q, 0, none⟩ (.int .i64 (M + 1)) = w7 at *
              have HC7 : ∀ W, w7.grownBy W none → W.cell? ⟨q, 0, none⟩ = some (.int .i64 (M + 1)) ∧ W.cell? ⟨q, 1, none⟩ = some (.int .i64 y.g.b) ∧ W.cell? ⟨q, 2, none⟩ = some (.int .i64 y.g.e) ∧ W.cell? ⟨q, 3, none⟩ = some (.int .i64 y.g.k) ∧ W.cell? ⟨q, 4, none⟩ = some (.int .i64 y.g.at') ∧ W.cell? ⟨q, 5, none⟩ = some (.bool false) ∧ W.cell? ⟨q, 6, none⟩ = some (.int .i64 y.g.fr) ∧ W.cell? ⟨q, 7, none⟩ = some (.int .i64 y.g.mo) ∧ W.cell? ⟨q, 8, none⟩ = some (.int .i64 y.g.nu) ∧ W.cell? ⟨q, 9, none⟩ = some (.int .i64 y.g.st) ∧ W.cell? ⟨q, 10, none⟩ = some (.slice da dn dc) ∧ W.cell? ⟨q, 11, none⟩ = some (.slice ra rn rc) := fun W hW => by
                have hh := HM7.out.2.1.kept hW (row := none) (by simp)
                exact ⟨hh.cell 0, hh.cell 1, hh.cell 2, hh.cell 3, hh.cell 4, hh.cell 5, hh.cell 6, hh.cell 7, hh.cell 8, hh.cell 9, hh.cell 10, hh.cell 11⟩
              go_cut [10, 11] (fun s10 s11 wx => s10 = .int .i64 0 ∧ s11 = .int .i64 0 ∧ Hid (w.grownBy wx none))
              case first =>
                refine wp_region_fork (X := fun _ _ _ => False) [(1, true), (3, true), (7, true)] 11 #[false, true, false, true, false, false, false, true, false, false, false, false, false, false] (clE w7 w7) (by kernel_rfl) (by kernel_rfl) rfl (by kernel_rfl) (fun _ _ _ h => h.elim) (shut_at0 (fun mm => grown_drewN _ mm _)) ⟨1, rfl⟩ ?_
                iterate 3 (refine mix_rd1X rfl rfl (fun K hK => ?_); apply Exists.intro; refine ⟨fun W hW => ?_, ?_⟩; (obtain ⟨x0, x1, x2, x3, x4, x5, x6, x7, x8, x9, x10, x11⟩ := HC7 W hW; go_simp; rfl); (go_simp; refine hK _ _ ?_; clear hK K))
                refine mix_nilX ?_
                refine fork2 0 4 (by kernel_rfl) ?_ ?_
                · refine f_empty (grown_refl w7 none) rfl rfl (fun W => by go_simp) ?_
                  intro K hK qe We HE0
                  go_simp
                  refine hK _ _ ?_
                  clear hK K
                  refine fork2 2 4 (by kernel_rfl) ?_ ?_
                  · refine f_copy HE0.out.1 qe HE0.out.2.2.2 (.slice va L.length vc) L (HL.out.1.kept HM7.out.2.2) HL.out.2.1 rfl rfl (.tmp 68) (.tmp 69) rfl rfl rfl ?_
                    intro K hK ca cc Wp HC1
                    go_simp
                    refine hK _ _ ?_
                    clear hK K
                    refine fork1 4 (by kernel_rfl) ?_
                    refine f_one HC1.out.1 #[.int .i64 (M + 1), .int .i64 y.g.b, .int .i64 y.g.e, .int .i64 y.g.k, .int .i64 y.g.at', .bool false, .int .i64 y.g.fr, .int .i64 y.g.mo, .int .i64 y.g.nu, .int .i64 y.g.st, .slice da dn dc, .slice ra rn rc] rfl rfl (fun W => by go_simp) ?_
                    intro K hK qo Wo HO1
                    go_simp
                    refine hK _ _ ?_
                    clear hK K
                    have HOW := hid_mk (HC1.out.2.2.kept HO1.out.2.1)
                    have HBL := hid_mk HO1.out.2.2.2
                    have HGR := hid_mk HO1.out.1
                    clear HE0 HC1 HO1
                    generalize hWX : Wo = WX at *
                    clear hWX
                    refine fork1 5 (by kernel_rfl) ?_
                    refine f_app HGR.out _ L HOW.out qo (⟨{ y.g with c := M + 1, an := false }, .slice da dn dc, .slice ra rn rc, y.R⟩ : CE) HBL.out ⟨⟨_, _, _, rfl⟩, ⟨_, _, _, rfl⟩⟩ (by have := HL.out.2.2.2.2.2.2.2; omega) rfl rfl (.tmp 70) (.tmp 72) rfl rfl rfl ?_
                    intro K hK xa xc WA HAP
                    go_simp
                    refine hK _ _ ?_
                    clear hK K
                    have HCS := hid_mk (HAP.out.2.red (fun z hz => by
                      rcases List.mem_append.1 hz with hz | hz
                      · exact (HL.out.1.ins z hz).kept (grown_trans HM7.out.2.2 HAP.out.1)
                      · rw [List.mem_singleton.1 hz]
                        have h9 := HL.out.2.2.2.2.2.1.kept (grown_trans HM7.out.2.2 HAP.out.1)
                        refine ⟨?_, ?_, h9.rs⟩
                        · rw [← HYS.out.1]; exact h9.d
                        · rw [← HYS.out.2]; exact h9.r))
                    refine fork1 6 (by kernel_rfl) ?_
                    refine f_call HAP.out.1 5 #[.slice xa (L.length + 1) xc] (fun v _ W' => ∃ L2 : List CE, CsR W' v L2 ∧ L2.length = L.length + 1 ∧ (∀ x ∈ L2, x.R.length ≤ 5864062014805) ∧ gs L2 = gs (L ++ [(⟨{ y.g with c := M + 1, an := false }, .slice da dn dc, .slice ra rn rc, y.R⟩ : CE)])) rfl rfl (fun W => by go_simp) (fun W1 hW1 => (own_any (HCS.out.kept hW1) (by rw [List.length_append]; have := HL.out.2.2.2.2.2.2.2; simp; omega) (fun x hx => by
                      rcases List.mem_append.1 hx with hx | hx
                      · exact HL.out.2.2.1 x hx
                      · rw [List.mem_singleton.1 hx]; obtain ⟨f1, f2, f3⟩ := HL.out.2.2.2.2.2.2.1; exact ⟨f1, f2, f3⟩)).mono (by
                      rintro e W' ⟨v', L', rfl, hoc, hoe, hgs, hg⟩
                      exact ⟨_, rfl, ⟨L', hoc.red (fun x hx => (hoe x hx).1.inC), by have h9 := congrArg List.length hgs; simpa [gs] using h9, fun x hx => (hoe x hx).2, hgs⟩, hg⟩)) ?_
                    intro K hK vv W1 WR HR0
                    obtain ⟨hg1, -, -, L2, hcs, hl2, hr2, hgs2⟩ := HR0.out
                    obtain ⟨va2, vc2, rfl⟩ := hcs.len
                    have HR1 := hid_mk (And.intro hg1 (And.intro hcs (And.intro hl2 (And.intro hr2 hgs2))))
                    clear hg1 hcs hl2 hr2 hgs2 HR0 HCS HAP
                    go_simp
                    refine hK _ _ ?_
                    clear hK K
                    refine fork1 8 (by kernel_rfl) ?_
                    refine f_call HR1.out.1 4 #[.slice va2 L2.length vc2, .slice ua o.length uc] (fun v _ _ => v = .tuple #[.int .i64 0, .int .i64 0]) rfl rfl (fun W => by go_simp) (fun W1 hW1 => (legal_any (HR1.out.2.1.kept hW1) (by have := HL.out.2.2.2.2.2.2.2; have := HR1.out.2.2.1; omega) HR1.out.2.2.2.1 (HL.out.2.2.2.1.kept (grown_trans HM7.out.2.2 (grown_trans HR1.out.1 hW1))) HL.out.2.2.2.2.1).mono (by
                      rintro e W' ⟨rfl, hg⟩
                      refine ⟨_, rfl, ?_, hg⟩
                      have h9 := legal_more (l := gs L) (o := o) (by rw [← HP.out]; exact HP0.out) (x := ((⟨⟨M + 1, y.g.b, 0, y.g.k, y.g.at', false, 0, 0, 0, 0, [], []⟩, .slice none 0 0, .slice none 0 0, []⟩ : CE)).g) (y := ((⟨{ y.g with c := M + 1, an := false }, .slice da dn dc, .slice ra rn rc, y.R⟩ : CE)).g) (HX.out.2.2 rfl).2 rfl rfl rfl rfl rfl rfl
                      rw [HR1.out.2.2.2.2, show gs (L ++ [(⟨{ y.g with c := M + 1, an := false }, .slice da dn dc, .slice ra rn rc, y.R⟩ : CE)]) = gs L ++ [((⟨{ y.g with c := M + 1, an := false }, .slice da dn dc, .slice ra rn rc, y.R⟩ : CE)).g] from by simp [gs], h9]
                      rfl)) ?_
                    intro K hK vv W1 WS HR2
                    obtain ⟨hg1, -, -, hvv⟩ := HR2.out
                    subst hvv
                    have HGS := hid_mk hg1
                    clear hg1 HR2
                    go_simp
                    refine hK _ _ ?_
                    clear hK K
                    refine reads_first (by kernel_rfl) [(9, true), (10, true), (11, true), (12, true), (13, true)] 0 5 rfl _ #[true, true, true, true, true, true, true, true, true, true, true, true, true, true] (by kernel_rfl) ?_
                    iterate 5 (refine mix_rd1X rfl rfl (fun K hK => ?_); apply Exists.intro; refine ⟨fun W hW => ?_, ?_⟩; (go_simp; rfl); (go_simp; refine hK _ _ ?_; clear hK K))
                    refine mix_nilX ?_
                    refine fork_end (by kernel_rfl) ?_
                    rintro Wz ⟨mz, rfl⟩
                    go_wp2_with fail
                    go_meet
                    case rel => exact ⟨rfl, rfl, hid_mk (grown_trans HM7.out.2.2 (grown_trans HGS.out (grown_drewN WS mz none)))⟩
                  · refine f_one HE0.out.1 #[.int .i64 (M + 1), .int .i64 y.g.b, .int .i64 y.g.e, .int .i64 y.g.k, .int .i64 y.g.at', .bool false, .int .i64 y.g.fr, .int .i64 y.g.mo, .int .i64 y.g.nu, .int .i64 y.g.st, .slice da dn dc, .slice ra rn rc] rfl rfl (fun W => by go_simp) ?_
                    intro K hK qo Wo HO1
                    go_simp
                    refine hK _ _ ?_
                    clear hK K
                    refine fork1 2 (by kernel_rfl) ?_
                    refine f_copy HO1.out.1 qe (HE0.out.2.2.2.kept HO1.out.2.1) (.slice va L.length vc) L (HL.out.1.kept HM7.out.2.2) HL.out.2.1 rfl rfl (.tmp 68) (.tmp 69) rfl rfl rfl ?_
                    intro K hK ca cc Wp HC1
                    go_simp
                    refine hK _ _ ?_
                    clear hK K
                    have HOW := hid_mk HC1.out.2.2
                    have HBL := hid_mk (HO1.out.2.2.2.kept HC1.out.2.1 (by have h1 := (own_low HE0.out.2.2.2 qe rfl).2; obtain ⟨cc9, hc9⟩ := h1; have h2 := (Array.getElem?_eq_some_iff.1 hc9).1; have := HO1.out.2.2.1; intro e; injection e with e; omega))
                    have HGR := hid_mk HC1.out.1
                    clear HE0 HC1 HO1
                    generalize hWX : Wp = WX at *
                    clear hWX
                    refine fork1 5 (by kernel_rfl) ?_
                    refine f_app HGR.out _ L HOW.out qo (⟨{ y.g with c := M + 1, an := false }, .slice da dn dc, .slice ra rn rc, y.R⟩ : CE) HBL.out ⟨⟨_, _, _, rfl⟩, ⟨_, _, _, rfl⟩⟩ (by have := HL.out.2.2.2.2.2.2.2; omega) rfl rfl (.tmp 70) (.tmp 72) rfl rfl rfl ?_
                    intro K hK xa xc WA HAP
                    go_simp
                    refine hK _ _ ?_
                    clear hK K
                    have HCS := hid_mk (HAP.out.2.red (fun z hz => by
                      rcases List.mem_append.1 hz with hz | hz
                      · exact (HL.out.1.ins z hz).kept (grown_trans HM7.out.2.2 HAP.out.1)
                      · rw [List.mem_singleton.1 hz]
                        have h9 := HL.out.2.2.2.2.2.1.kept (grown_trans HM7.out.2.2 HAP.out.1)
                        refine ⟨?_, ?_, h9.rs⟩
                        · rw [← HYS.out.1]; exact h9.d
                        · rw [← HYS.out.2]; exact h9.r))
                    refine fork1 6 (by kernel_rfl) ?_
                    refine f_call HAP.out.1 5 #[.slice xa (L.length + 1) xc] (fun v _ W' => ∃ L2 : List CE, CsR W' v L2 ∧ L2.length = L.length + 1 ∧ (∀ x ∈ L2, x.R.length ≤ 5864062014805) ∧ gs L2 = gs (L ++ [(⟨{ y.g with c := M + 1, an := false }, .slice da dn dc, .slice ra rn rc, y.R⟩ : CE)])) rfl rfl (fun W => by go_simp) (fun W1 hW1 => (own_any (HCS.out.kept hW1) (by rw [List.length_append]; have := HL.out.2.2.2.2.2.2.2; simp; omega) (fun x hx => by
                      rcases List.mem_append.1 hx with hx | hx
                      · exact HL.out.2.2.1 x hx
                      · rw [List.mem_singleton.1 hx]; obtain ⟨f1, f2, f3⟩ := HL.out.2.2.2.2.2.2.1; exact ⟨f1, f2, f3⟩)).mono (by
                      rintro e W' ⟨v', L', rfl, hoc, hoe, hgs, hg⟩
                      exact ⟨_, rfl, ⟨L', hoc.red (fun x hx => (hoe x hx).1.inC), by have h9 := congrArg List.length hgs; simpa [gs] using h9, fun x hx => (hoe x hx).2, hgs⟩, hg⟩)) ?_
                    intro K hK vv W1 WR HR0
                    obtain ⟨hg1, -, -, L2, hcs, hl2, hr2, hgs2⟩ := HR0.out
                    obtain ⟨va2, vc2, rfl⟩ := hcs.len
                    have HR1 := hid_mk (And.intro hg1 (And.intro hcs (And.intro hl2 (And.intro hr2 hgs2))))
                    clear hg1 hcs hl2 hr2 hgs2 HR0 HCS HAP
                    go_simp
                    refine hK _ _ ?_
                    clear hK K
                    refine fork1 8 (by kernel_rfl) ?_
                    refine f_call HR1.out.1 4 #[.slice va2 L2.length vc2, .slice ua o.length uc] (fun v _ _ => v = .tuple #[.int .i64 0, .int .i64 0]) rfl rfl (fun W => by go_simp) (fun W1 hW1 => (legal_any (HR1.out.2.1.kept hW1) (by have := HL.out.2.2.2.2.2.2.2; have := HR1.out.2.2.1; omega) HR1.out.2.2.2.1 (HL.out.2.2.2.1.kept (grown_trans HM7.out.2.2 (grown_trans HR1.out.1 hW1))) HL.out.2.2.2.2.1).mono (by
                      rintro e W' ⟨rfl, hg⟩
                      refine ⟨_, rfl, ?_, hg⟩
                      have h9 := legal_more (l := gs L) (o := o) (by rw [← HP.out]; exact HP0.out) (x := ((⟨⟨M + 1, y.g.b, 0, y.g.k, y.g.at', false, 0, 0, 0, 0, [], []⟩, .slice none 0 0, .slice none 0 0, []⟩ : CE)).g) (y := ((⟨{ y.g with c := M + 1, an := false }, .slice da dn dc, .slice ra rn rc, y.R⟩ : CE)).g) (HX.out.2.2 rfl).2 rfl rfl rfl rfl rfl rfl
                      rw [HR1.out.2.2.2.2, show gs (L ++ [(⟨{ y.g with c := M + 1, an := false }, .slice da dn dc, .slice ra rn rc, y.R⟩ : CE)]) = gs L ++ [((⟨{ y.g with c := M + 1, an := false }, .slice da dn dc, .slice ra rn rc, y.R⟩ : CE)).g] from by simp [gs], h9]
                      rfl)) ?_
                    intro K hK vv W1 WS HR2
                    obtain ⟨hg1, -, -, hvv⟩ := HR2.out
                    subst hvv
                    have HGS := hid_mk hg1
                    clear hg1 HR2
                    go_simp
                    refine hK _ _ ?_
                    clear hK K
                    refine reads_first (by kernel_rfl) [(9, true), (10, true), (11, true), (12, true), (13, true)] 0 5 rfl _ #[true, true, true, true, true, true, true, true, true, true, true, true, true, true] (by kernel_rfl) ?_
                    iterate 5 (refine mix_rd1X rfl rfl (fun K hK => ?_); apply Exists.intro; refine ⟨fun W hW => ?_, ?_⟩; (go_simp; rfl); (go_simp; refine hK _ _ ?_; clear hK K))
                    refine mix_nilX ?_
                    refine fork_end (by kernel_rfl) ?_
                    rintro Wz ⟨mz, rfl⟩
                    go_wp2_with fail
                    go_meet
                    case rel => exact ⟨rfl, rfl, hid_mk (grown_trans HM7.out.2.2 (grown_trans HGS.out (grown_drewN WS mz none)))⟩
                · refine f_one (grown_refl w7 none) #[.int .i64 (M + 1), .int .i64 y.g.b, .int .i64 y.g.e, .int .i64 y.g.k, .int .i64 y.g.at', .bool false, .int .i64 y.g.fr, .int .i64 y.g.mo, .int .i64 y.g.nu, .int .i64 y.g.st, .slice da dn dc, .slice ra rn rc] rfl rfl (fun W => by go_simp) ?_
                  intro K hK qo Wo HO1
                  go_simp
                  refine hK _ _ ?_
                  clear hK K
                  refine fork1 0 (by kernel_rfl) ?_
                  refine f_empty HO1.out.1 rfl rfl (fun W => by go_simp) ?_
                  intro K hK qe We HE0
                  go_simp
                  refine hK _ _ ?_
                  clear hK K
                  refine fork1 2 (by kernel_rfl) ?_
                  refine f_copy HE0.out.1 qe HE0.out.2.2.2 (.slice va L.length vc) L (HL.out.1.kept HM7.out.2.2) HL.out.2.1 rfl rfl (.tmp 68) (.tmp 69) rfl rfl rfl ?_
                  intro K hK ca cc Wp HC1
                  go_simp
                  refine hK _ _ ?_
                  clear hK K
                  have HOW := hid_mk HC1.out.2.2
                  have HBL := hid_mk ((HO1.out.2.2.2.kept HE0.out.2.1 (row := none) (by simp)).kept HC1.out.2.1 (by have h2 := HO1.out.2.2.2.lt; have := HE0.out.2.2.1; intro e; injection e with e; omega))
                  have HGR := hid_mk HC1.out.1
                  clear HE0 HC1 HO1
                  generalize hWX : Wp = WX at *
                  clear hWX
                  refine fork1 5 (by kernel_rfl) ?_
                  refine f_app HGR.out _ L HOW.out qo (⟨{ y.g with c := M + 1, an := false }, .slice da dn dc, .slice ra rn rc, y.R⟩ : CE) HBL.out ⟨⟨_, _, _, rfl⟩, ⟨_, _, _, rfl⟩⟩ (by have := HL.out.2.2.2.2.2.2.2; omega) rfl rfl (.tmp 70) (.tmp 72) rfl rfl rfl ?_
                  intro K hK xa xc WA HAP
                  go_simp
                  refine hK _ _ ?_
                  clear hK K
                  have HCS := hid_mk (HAP.out.2.red (fun z hz => by
                    rcases List.mem_append.1 hz with hz | hz
                    · exact (HL.out.1.ins z hz).kept (grown_trans HM7.out.2.2 HAP.out.1)
                    · rw [List.mem_singleton.1 hz]
                      have h9 := HL.out.2.2.2.2.2.1.kept (grown_trans HM7.out.2.2 HAP.out.1)
                      refine ⟨?_, ?_, h9.rs⟩
                      · rw [← HYS.out.1]; exact h9.d
                      · rw [← HYS.out.2]; exact h9.r))
                  refine fork1 6 (by kernel_rfl) ?_
                  refine f_call HAP.out.1 5 #[.slice xa (L.length + 1) xc] (fun v _ W' => ∃ L2 : List CE, CsR W' v L2 ∧ L2.length = L.length + 1 ∧ (∀ x ∈ L2, x.R.length ≤ 5864062014805) ∧ gs L2 = gs (L ++ [(⟨{ y.g with c := M + 1, an := false }, .slice da dn dc, .slice ra rn rc, y.R⟩ : CE)])) rfl rfl (fun W => by go_simp) (fun W1 hW1 => (own_any (HCS.out.kept hW1) (by rw [List.length_append]; have := HL.out.2.2.2.2.2.2.2; simp; omega) (fun x hx => by
                    rcases List.mem_append.1 hx with hx | hx
                    · exact HL.out.2.2.1 x hx
                    · rw [List.mem_singleton.1 hx]; obtain ⟨f1, f2, f3⟩ := HL.out.2.2.2.2.2.2.1; exact ⟨f1, f2, f3⟩)).mono (by
                    rintro e W' ⟨v', L', rfl, hoc, hoe, hgs, hg⟩
                    exact ⟨_, rfl, ⟨L', hoc.red (fun x hx => (hoe x hx).1.inC), by have h9 := congrArg List.length hgs; simpa [gs] using h9, fun x hx => (hoe x hx).2, hgs⟩, hg⟩)) ?_
                  intro K hK vv W1 WR HR0
                  obtain ⟨hg1, -, -, L2, hcs, hl2, hr2, hgs2⟩ := HR0.out
                  obtain ⟨va2, vc2, rfl⟩ := hcs.len
                  have HR1 := hid_mk (And.intro hg1 (And.intro hcs (And.intro hl2 (And.intro hr2 hgs2))))
                  clear hg1 hcs hl2 hr2 hgs2 HR0 HCS HAP
                  go_simp
                  refine hK _ _ ?_
                  clear hK K
                  refine fork1 8 (by kernel_rfl) ?_
                  refine f_call HR1.out.1 4 #[.slice va2 L2.length vc2, .slice ua o.length uc] (fun v _ _ => v = .tuple #[.int .i64 0, .int .i64 0]) rfl rfl (fun W => by go_simp) (fun W1 hW1 => (legal_any (HR1.out.2.1.kept hW1) (by have := HL.out.2.2.2.2.2.2.2; have := HR1.out.2.2.1; omega) HR1.out.2.2.2.1 (HL.out.2.2.2.1.kept (grown_trans HM7.out.2.2 (grown_trans HR1.out.1 hW1))) HL.out.2.2.2.2.1).mono (by
                    rintro e W' ⟨rfl, hg⟩
                    refine ⟨_, rfl, ?_, hg⟩
                    have h9 := legal_more (l := gs L) (o := o) (by rw [← HP.out]; exact HP0.out) (x := ((⟨⟨M + 1, y.g.b, 0, y.g.k, y.g.at', false, 0, 0, 0, 0, [], []⟩, .slice none 0 0, .slice none 0 0, []⟩ : CE)).g) (y := ((⟨{ y.g with c := M + 1, an := false }, .slice da dn dc, .slice ra rn rc, y.R⟩ : CE)).g) (HX.out.2.2 rfl).2 rfl rfl rfl rfl rfl rfl
                    rw [HR1.out.2.2.2.2, show gs (L ++ [(⟨{ y.g with c := M + 1, an := false }, .slice da dn dc, .slice ra rn rc, y.R⟩ : CE)]) = gs L ++ [((⟨{ y.g with c := M + 1, an := false }, .slice da dn dc, .slice ra rn rc, y.R⟩ : CE)).g] from by simp [gs], h9]
                    rfl)) ?_
                  intro K hK vv W1 WS HR2
                  obtain ⟨hg1, -, -, hvv⟩ := HR2.out
                  subst hvv
                  have HGS := hid_mk hg1
                  clear hg1 HR2
                  go_simp
                  refine hK _ _ ?_
                  clear hK K
                  refine reads_first (by kernel_rfl) [(9, true), (10, true), (11, true), (12, true), (13, true)] 0 5 rfl _ #[true, true, true, true, true, true, true, true, true, true, true, true, true, true] (by kernel_rfl) ?_
                  iterate 5 (refine mix_rd1X rfl rfl (fun K hK => ?_); apply Exists.intro; refine ⟨fun W hW => ?_, ?_⟩; (go_simp; rfl); (go_simp; refine hK _ _ ?_; clear hK K))
                  refine mix_nilX ?_
                  refine fork_end (by kernel_rfl) ?_
                  rintro Wz ⟨mz, rfl⟩
                  go_wp2_with fail
                  go_meet
                  case rel => exact ⟨rfl, rfl, hid_mk (grown_trans HM7.out.2.2 (grown_trans HGS.out (grown_drewN WS mz none)))⟩

              case rest =>
                obtain ⟨rfl, rfl, HZ⟩ := hcut
                rename World => w8
                go_wp2_with fail
                refine (num_any _ w8).mono ?_
                rintro e w8 ⟨rfl, rfl⟩
                go_wp2_with fail
                refine (knows_any w8).mono ?_
                rintro e wk ⟨rfl, hg⟩
                have HK := hid_mk (grown_trans HZ.out hg)
                clear hg
                go_wp2_with fail
                go_ret
                exact ⟨rfl, HK.out⟩
end Go.Proofs.Ythbfjpaimnhpgab
