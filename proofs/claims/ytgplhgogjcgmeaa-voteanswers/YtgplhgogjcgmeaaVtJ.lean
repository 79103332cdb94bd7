/- vote: VoteAnswers: the walk. -/
import Derived.Test.YtgplhgogjcgmeaaVtC
import Derived.Test.YtgplhgogjcgmeaaVtK
import Derived.Test.YtgplhgogjcgmeaaVtH
namespace Go.Proofs.Ytgplhgogjcgmeaa
open Go.RowKit Go.Maps
set_option linter.unusedVariables false
set_option linter.unusedSimpArgs false
set_option maxRecDepth 100000

set_option maxHeartbeats 4000000 in
theorem voteAnswers_walk (m : Meg) (a : Ask) (w : World) : Calls Try.prog 3 #[m.v, a.v] w fun e w' => e = .returned (.bool true) ∧ w.grownBy w' none := by
  have HA := hid_mk (fun W => answer_any m a W)
  have HB := hid_mk (fun W => ranswer_any m a W)
  have HM := hid_mk (fun W => me_gr m W)
  have HN := hid_mk (fun W => ask_gr a W)
  have HP := hid_mk (fun W => me_gr (ans m a).1 W)
  have HU := hid_mk (fun W => upto_gr a.i a.l m.i m.l W)
  have HV := hid_mk (fun W => rupto_gr a.i a.l m.i m.l W)
  generalize ans m a = r at *
  obtain ⟨⟨rt, rf, ri, rl, rfr⟩, yes, sil⟩ := r
  obtain ⟨mt, f, i, l, fr⟩ := m
  obtain ⟨at', af, ai, al⟩ := a
  simp only at *
  generalize upB ai al i l = u at *
  have HE : Hid (∀ W, (Op.equalIn 10000 26 (.agg #[.int .i64 rt, .int .i64 rf, .int .i64 ri, .int .i64 rl, .bool rfr]) (.agg #[.int .i64 rt, .int .i64 rf, .int .i64 ri, .int .i64 rl, .bool rfr])).run Try.prog W = .ok true W) := hid_mk (fun W => by
    have := eq26 ⟨rt, rf, ri, rl, rfr⟩ ⟨rt, rf, ri, rl, rfr⟩ W
    rw [decide_eq_true rfl] at this
    exact this)
  unfold ansV Meg.v Ask.v at *
  simp only at *
  go_enter Try.func3, Try.ntmps3
  go_upto_region 1 with fail
  obtain ⟨w0, hw0⟩ : ∃ w0, w0 = (w.alloc (.cells #[.int .i64 mt, .int .i64 f, .int .i64 i, .int .i64 l, .bool fr] 23)).alloc (.cells #[.int .i64 at', .int .i64 af, .int .i64 ai, .int .i64 al] 25) := ⟨_, rfl⟩
  have HG0 := hid_mk (show w.grownBy w0 none by rw [hw0]; exact ga2 _ _ _)
  have HM0 := hid_mk (show Blk w0 w.heap.size #[.int .i64 mt, .int .i64 f, .int .i64 i, .int .i64 l, .bool fr] 23 by rw [hw0]; exact Blk.kept (show Blk (w.alloc _) _ _ _ from heap_alloc_new w _) (World.grownBy_alloc _ _ none) (by simp))
  have HA0 := hid_mk (show Blk w0 (w.heap.size + 1) #[.int .i64 at', .int .i64 af, .int .i64 ai, .int .i64 al] 25 by rw [hw0]; have := heap_alloc_new (w.alloc (.cells #[.int .i64 mt, .int .i64 f, .int .i64 i, .int .i64 l, .bool fr] 23)) (.cells #[.int .i64 at', .int .i64 af, .int .i64 ai, .int .i64 al] 25); simpa [Blk] using this)
  rw [← hw0]
  clear hw0
  have HAll : ∀ W0, w0.grownBy W0 none → W0.cell? ⟨w.heap.size, 0, none⟩ = some (.int .i64 mt) ∧ W0.cell? ⟨w.heap.size, 1, none⟩ = some (.int .i64 f) ∧ W0.cell? ⟨w.heap.size, 2, none⟩ = some (.int .i64 i) ∧ W0.cell? ⟨w.heap.size, 3, none⟩ = some (.int .i64 l) ∧ W0.cell? ⟨w.heap.size, 4, none⟩ = some (.bool fr) ∧ W0.cell? ⟨w.heap.size + 1, 0, none⟩ = some (.int .i64 at') ∧ W0.cell? ⟨w.heap.size + 1, 1, none⟩ = some (.int .i64 af) ∧ W0.cell? ⟨w.heap.size + 1, 2, none⟩ = some (.int .i64 ai) ∧ W0.cell? ⟨w.heap.size + 1, 3, none⟩ = some (.int .i64 al) := fun W0 hW => by
    have h1 := HM0.out.kept hW (by simp)
    have h2 := HA0.out.kept hW (by simp)
    exact ⟨by rw [h1.cell]; rfl, by rw [h1.cell]; rfl, by rw [h1.cell]; rfl, by rw [h1.cell]; rfl, by rw [h1.cell]; rfl, by rw [h2.cell]; rfl, by rw [h2.cell]; rfl, by rw [h2.cell]; rfl, by rw [h2.cell]; rfl⟩
  have HX0 := hid_mk (show BS w0 w0 26 none from ⟨grown_refl _ _, fun q e => by cases e⟩)
  go_cut [5, 6, 7] (fun s5 s6 s7 wx => ∃ q : Nat, s5 = .pointer (some ⟨q, 0, none⟩) ∧ s6 = .bool yes ∧ s7 = .bool sil ∧ Hid (w0.grownBy wx none ∧ Blk wx q #[.int .i64 rt, .int .i64 rf, .int .i64 ri, .int .i64 rl, .bool rfr] 26))
  case first =>
    refine wp_region_fork (X := fun _ _ _ => False) [(0, true), (2, true)] 11 #[true, false, true, false, false, false, false, false, false, false, false, false, false] (cl w0 w0) (by kernel_rfl) (by kernel_rfl) rfl (by kernel_rfl) (fun _ _ _ h => h.elim) (shut_at0 (fun mm => grown_trans HX0.out.gr (grown_drewN _ mm _))) ⟨1, rfl⟩ ?_
    repeat (refine mix_rd1X rfl rfl (fun K hK => ?_); apply Exists.intro; refine ⟨fun W0 hW => ?_, ?_⟩; (obtain ⟨f0, f1, f2, f3, f4, g0, g1, g2, g3⟩ := HAll W0 hW; go_simp; rfl); (go_simp; refine hK _ _ ?_; clear hK K))
    refine mix_nilX ?_
    refine fork2 1 9 (by kernel_rfl) ?_ ?_
    · refine bs_call HX0.out 10 #[.agg #[.int .i64 mt, .int .i64 f, .int .i64 i, .int .i64 l, .bool fr]] (.agg #[.int .i64 mt, .int .i64 f, .int .i64 i, .int .i64 l, .bool fr]) rfl rfl (fun W => by go_simp) HM.out ?_
      intro K hK Wc1 HX1
      go_simp
      refine hK _ _ ?_
      clear hK K
      refine fork2 3 9 (by kernel_rfl) ?_ ?_
      · refine bs_call HX1.out 11 #[.agg #[.int .i64 at', .int .i64 af, .int .i64 ai, .int .i64 al]] (.agg #[.int .i64 at', .int .i64 af, .int .i64 ai, .int .i64 al]) rfl rfl (fun W => by go_simp) HN.out ?_
        intro K hK Wc2 HX2
        go_simp
        refine hK _ _ ?_
        clear hK K
        refine fork2 4 9 (by kernel_rfl) ?_ ?_
        · refine bs_call HX2.out 9 #[.agg #[.int .i64 mt, .int .i64 f, .int .i64 i, .int .i64 l, .bool fr], .agg #[.int .i64 at', .int .i64 af, .int .i64 ai, .int .i64 al]] (.tuple #[.agg #[.int .i64 rt, .int .i64 rf, .int .i64 ri, .int .i64 rl, .bool rfr], .bool yes, .bool sil]) rfl rfl (fun W => by go_simp) HA.out ?_
          intro K hK Wc3 HX3
          go_simp
          refine hK _ _ ?_
          clear hK K
          refine reads_first (by kernel_rfl) [(5, true), (6, true), (7, true), (8, true)] 4 8 rfl _ #[true, true, true, true, true, true, true, true, true, false, false, false, false] (by kernel_rfl) ?_
          repeat (refine mix_rd1X rfl rfl (fun K hK => ?_); apply Exists.intro; refine ⟨fun W0 hW => ?_, ?_⟩; (go_simp; rfl); (go_simp; refine hK _ _ ?_; clear hK K))
          refine mix_nilX ?_
          refine fork1 9 (by kernel_rfl) ?_
          refine bs_box HX3.out rfl rfl (fun W => by go_simp) ?_
          intro K hK q4 Wb4 HB4
          go_simp
          refine hK _ _ ?_
          clear hK K
          refine fork1 10 (by kernel_rfl) ?_
          refine bs_store q4 HB4.out (.int .i64 rt) (.int .i64 rf) (.int .i64 ri) (.int .i64 rl) (.bool rfr) rfl rfl (fun W hb => by
            have e0 : W.cell? ⟨q4, 0, none⟩ = some (zer.getD 0 undef) := by rw [hb.cell]; rfl
            have e1 : W.cell? ⟨q4, 1, none⟩ = some (zer.getD 1 undef) := by rw [hb.cell]; rfl
            have e2 : W.cell? ⟨q4, 2, none⟩ = some (zer.getD 2 undef) := by rw [hb.cell]; rfl
            have e3 : W.cell? ⟨q4, 3, none⟩ = some (zer.getD 3 undef) := by rw [hb.cell]; rfl
            have e4 : W.cell? ⟨q4, 4, none⟩ = some (zer.getD 4 undef) := by rw [hb.cell]; rfl
            have ef := fun j => hb.frozen j
            simp only [zer, Array.getD_eq_getD_getElem?] at e0 e1 e2 e3 e4
            unfold laid5
            first | (left; go_simp; done) | (right; apply Exists.intro; go_simp; rfl) | (right; apply Exists.intro; go_simp)) rfl ?_
          intro K hK Ws5 HS5
          refine hK _ _ ?_
          clear hK K
          refine reads_first (by kernel_rfl) [(11, true), (12, true)] 0 2 rfl _ #[true, true, true, true, true, true, true, true, true, true, true, true, true] (by kernel_rfl) ?_
          repeat (refine mix_rd1X rfl rfl (fun K hK => ?_); apply Exists.intro; refine ⟨fun W0 hW => ?_, ?_⟩; (go_simp; rfl); (go_simp; refine hK _ _ ?_; clear hK K))
          refine mix_nilX ?_
          refine fork_end (by kernel_rfl) ?_
          rintro Wz ⟨mz, rfl⟩
          go_wp2_with fail
          go_meet
          case rel => exact ⟨q4, rfl, rfl, rfl, hid_mk ⟨grown_trans HS5.out.1 (grown_drewN _ _ none), HS5.out.2.1.kept (grown_drewN _ _ none) (by simp)⟩⟩
        · refine bs_box HX2.out rfl rfl (fun W => by go_simp) ?_
          intro K hK q6 Wb6 HB6
          go_simp
          refine hK _ _ ?_
          clear hK K
          refine fork1 4 (by kernel_rfl) ?_
          refine bs_call HB6.out 9 #[.agg #[.int .i64 mt, .int .i64 f, .int .i64 i, .int .i64 l, .bool fr], .agg #[.int .i64 at', .int .i64 af, .int .i64 ai, .int .i64 al]] (.tuple #[.agg #[.int .i64 rt, .int .i64 rf, .int .i64 ri, .int .i64 rl, .bool rfr], .bool yes, .bool sil]) rfl rfl (fun W => by go_simp) HA.out ?_
          intro K hK Wc7 HX7
          go_simp
          refine hK _ _ ?_
          clear hK K
          refine reads_first (by kernel_rfl) [(5, true), (6, true), (7, true), (8, true)] 3 7 rfl _ #[true, true, true, true, true, true, true, true, true, true, false, false, false] (by kernel_rfl) ?_
          repeat (refine mix_rd1X rfl rfl (fun K hK => ?_); apply Exists.intro; refine ⟨fun W0 hW => ?_, ?_⟩; (go_simp; rfl); (go_simp; refine hK _ _ ?_; clear hK K))
          refine mix_nilX ?_
          refine fork1 10 (by kernel_rfl) ?_
          refine bs_store q6 HX7.out (.int .i64 rt) (.int .i64 rf) (.int .i64 ri) (.int .i64 rl) (.bool rfr) rfl rfl (fun W hb => by
            have e0 : W.cell? ⟨q6, 0, none⟩ = some (zer.getD 0 undef) := by rw [hb.cell]; rfl
            have e1 : W.cell? ⟨q6, 1, none⟩ = some (zer.getD 1 undef) := by rw [hb.cell]; rfl
            have e2 : W.cell? ⟨q6, 2, none⟩ = some (zer.getD 2 undef) := by rw [hb.cell]; rfl
            have e3 : W.cell? ⟨q6, 3, none⟩ = some (zer.getD 3 undef) := by rw [hb.cell]; rfl
            have e4 : W.cell? ⟨q6, 4, none⟩ = some (zer.getD 4 undef) := by rw [hb.cell]; rfl
            have ef := fun j => hb.frozen j
            simp only [zer, Array.getD_eq_getD_getElem?] at e0 e1 e2 e3 e4
            unfold laid5
            first | (left; go_simp; done) | (right; apply Exists.intro; go_simp; rfl) | (right; apply Exists.intro; go_simp)) rfl ?_
          intro K hK Ws8 HS8
          refine hK _ _ ?_
          clear hK K
          refine reads_first (by kernel_rfl) [(11, true), (12, true)] 0 2 rfl _ #[true, true, true, true, true, true, true, true, true, true, true, true, true] (by kernel_rfl) ?_
          repeat (refine mix_rd1X rfl rfl (fun K hK => ?_); apply Exists.intro; refine ⟨fun W0 hW => ?_, ?_⟩; (go_simp; rfl); (go_simp; refine hK _ _ ?_; clear hK K))
          refine mix_nilX ?_
          refine fork_end (by kernel_rfl) ?_
          rintro Wz ⟨mz, rfl⟩
          go_wp2_with fail
          go_meet
          case rel => exact ⟨q6, rfl, rfl, rfl, hid_mk ⟨grown_trans HS8.out.1 (grown_drewN _ _ none), HS8.out.2.1.kept (grown_drewN _ _ none) (by simp)⟩⟩
      · refine bs_box HX1.out rfl rfl (fun W => by go_simp) ?_
        intro K hK q9 Wb9 HB9
        go_simp
        refine hK _ _ ?_
        clear hK K
        refine fork1 3 (by kernel_rfl) ?_
        refine bs_call HB9.out 11 #[.agg #[.int .i64 at', .int .i64 af, .int .i64 ai, .int .i64 al]] (.agg #[.int .i64 at', .int .i64 af, .int .i64 ai, .int .i64 al]) rfl rfl (fun W => by go_simp) HN.out ?_
        intro K hK Wc10 HX10
        go_simp
        refine hK _ _ ?_
        clear hK K
        refine fork1 4 (by kernel_rfl) ?_
        refine bs_call HX10.out 9 #[.agg #[.int .i64 mt, .int .i64 f, .int .i64 i, .int .i64 l, .bool fr], .agg #[.int .i64 at', .int .i64 af, .int .i64 ai, .int .i64 al]] (.tuple #[.agg #[.int .i64 rt, .int .i64 rf, .int .i64 ri, .int .i64 rl, .bool rfr], .bool yes, .bool sil]) rfl rfl (fun W => by go_simp) HA.out ?_
        intro K hK Wc11 HX11
        go_simp
        refine hK _ _ ?_
        clear hK K
        refine reads_first (by kernel_rfl) [(5, true), (6, true), (7, true), (8, true)] 3 7 rfl _ #[true, true, true, true, true, true, true, true, true, true, false, false, false] (by kernel_rfl) ?_
        repeat (refine mix_rd1X rfl rfl (fun K hK => ?_); apply Exists.intro; refine ⟨fun W0 hW => ?_, ?_⟩; (go_simp; rfl); (go_simp; refine hK _ _ ?_; clear hK K))
        refine mix_nilX ?_
        refine fork1 10 (by kernel_rfl) ?_
        refine bs_store q9 HX11.out (.int .i64 rt) (.int .i64 rf) (.int .i64 ri) (.int .i64 rl) (.bool rfr) rfl rfl (fun W hb => by
          have e0 : W.cell? ⟨q9, 0, none⟩ = some (zer.getD 0 undef) := by rw [hb.cell]; rfl
          have e1 : W.cell? ⟨q9, 1, none⟩ = some (zer.getD 1 undef) := by rw [hb.cell]; rfl
          have e2 : W.cell? ⟨q9, 2, none⟩ = some (zer.getD 2 undef) := by rw [hb.cell]; rfl
          have e3 : W.cell? ⟨q9, 3, none⟩ = some (zer.getD 3 undef) := by rw [hb.cell]; rfl
          have e4 : W.cell? ⟨q9, 4, none⟩ = some (zer.getD 4 undef) := by rw [hb.cell]; rfl
          have ef := fun j => hb.frozen j
          simp only [zer, Array.getD_eq_getD_getElem?] at e0 e1 e2 e3 e4
          unfold laid5
          first | (left; go_simp; done) | (right; apply Exists.intro; go_simp; rfl) | (right; apply Exists.intro; go_simp)) rfl ?_
        intro K hK Ws12 HS12
        refine hK _ _ ?_
        clear hK K
        refine reads_first (by kernel_rfl) [(11, true), (12, true)] 0 2 rfl _ #[true, true, true, true, true, true, true, true, true, true, true, true, true] (by kernel_rfl) ?_
        repeat (refine mix_rd1X rfl rfl (fun K hK => ?_); apply Exists.intro; refine ⟨fun W0 hW => ?_, ?_⟩; (go_simp; rfl); (go_simp; refine hK _ _ ?_; clear hK K))
        refine mix_nilX ?_
        refine fork_end (by kernel_rfl) ?_
        rintro Wz ⟨mz, rfl⟩
        go_wp2_with fail
        go_meet
        case rel => exact ⟨q9, rfl, rfl, rfl, hid_mk ⟨grown_trans HS12.out.1 (grown_drewN _ _ none), HS12.out.2.1.kept (grown_drewN _ _ none) (by simp)⟩⟩
    · refine bs_box HX0.out rfl rfl (fun W => by go_simp) ?_
      intro K hK q13 Wb13 HB13
      go_simp
      refine hK _ _ ?_
      clear hK K
      refine fork1 1 (by kernel_rfl) ?_
      refine bs_call HB13.out 10 #[.agg #[.int .i64 mt, .int .i64 f, .int .i64 i, .int .i64 l, .bool fr]] (.agg #[.int .i64 mt, .int .i64 f, .int .i64 i, .int .i64 l, .bool fr]) rfl rfl (fun W => by go_simp) HM.out ?_
      intro K hK Wc14 HX14
      go_simp
      refine hK _ _ ?_
      clear hK K
      refine fork1 3 (by kernel_rfl) ?_
      refine bs_call HX14.out 11 #[.agg #[.int .i64 at', .int .i64 af, .int .i64 ai, .int .i64 al]] (.agg #[.int .i64 at', .int .i64 af, .int .i64 ai, .int .i64 al]) rfl rfl (fun W => by go_simp) HN.out ?_
      intro K hK Wc15 HX15
      go_simp
      refine hK _ _ ?_
      clear hK K
      refine fork1 4 (by kernel_rfl) ?_
      refine bs_call HX15.out 9 #[.agg #[.int .i64 mt, .int .i64 f, .int .i64 i, .int .i64 l, .bool fr], .agg #[.int .i64 at', .int .i64 af, .int .i64 ai, .int .i64 al]] (.tuple #[.agg #[.int .i64 rt, .int .i64 rf, .int .i64 ri, .int .i64 rl, .bool rfr], .bool yes, .bool sil]) rfl rfl (fun W => by go_simp) HA.out ?_
      intro K hK Wc16 HX16
      go_simp
      refine hK _ _ ?_
      clear hK K
      refine reads_first (by kernel_rfl) [(5, true), (6, true), (7, true), (8, true)] 3 7 rfl _ #[true, true, true, true, true, true, true, true, true, true, false, false, false] (by kernel_rfl) ?_
      repeat (refine mix_rd1X rfl rfl (fun K hK => ?_); apply Exists.intro; refine ⟨fun W0 hW => ?_, ?_⟩; (go_simp; rfl); (go_simp; refine hK _ _ ?_; clear hK K))
      refine mix_nilX ?_
      refine fork1 10 (by kernel_rfl) ?_
      refine bs_store q13 HX16.out (.int .i64 rt) (.int .i64 rf) (.int .i64 ri) (.int .i64 rl) (.bool rfr) rfl rfl (fun W hb => by
        have e0 : W.cell? ⟨q13, 0, none⟩ = some (zer.getD 0 undef) := by rw [hb.cell]; rfl
        have e1 : W.cell? ⟨q13, 1, none⟩ = some (zer.getD 1 undef) := by rw [hb.cell]; rfl
        have e2 : W.cell? ⟨q13, 2, none⟩ = some (zer.getD 2 undef) := by rw [hb.cell]; rfl
        have e3 : W.cell? ⟨q13, 3, none⟩ = some (zer.getD 3 undef) := by rw [hb.cell]; rfl
        have e4 : W.cell? ⟨q13, 4, none⟩ = some (zer.getD 4 undef) := by rw [hb.cell]; rfl
        have ef := fun j => hb.frozen j
        simp only [zer, Array.getD_eq_getD_getElem?] at e0 e1 e2 e3 e4
        unfold laid5
        first | (left; go_simp; done) | (right; apply Exists.intro; go_simp; rfl) | (right; apply Exists.intro; go_simp)) rfl ?_
      intro K hK Ws17 HS17
      refine hK _ _ ?_
      clear hK K
      refine reads_first (by kernel_rfl) [(11, true), (12, true)] 0 2 rfl _ #[true, true, true, true, true, true, true, true, true, true, true, true, true] (by kernel_rfl) ?_
      repeat (refine mix_rd1X rfl rfl (fun K hK => ?_); apply Exists.intro; refine ⟨fun W0 hW => ?_, ?_⟩; (go_simp; rfl); (go_simp; refine hK _ _ ?_; clear hK K))
      refine mix_nilX ?_
      refine fork_end (by kernel_rfl) ?_
      rintro Wz ⟨mz, rfl⟩
      go_wp2_with fail
      go_meet
      case rel => exact ⟨q13, rfl, rfl, rfl, hid_mk ⟨grown_trans HS17.out.1 (grown_drewN _ _ none), HS17.out.2.1.kept (grown_drewN _ _ none) (by simp)⟩⟩
  case rest =>
    obtain ⟨q1, rfl, rfl, rfl, HQ⟩ := hcut
    rename World => wc
    obtain ⟨f0, f1, f2, f3, f4, g0, g1, g2, g3⟩ := HAll wc HQ.out.1
    go_wp2_with fail
    refine (HB.out _).mono ?_
    rintro e w2 ⟨rfl, hg⟩
    have H2 := hid_mk (And.intro (grown_trans HQ.out.1 hg) (HQ.out.2.kept hg (by simp)))
    clear hg f0 f1 f2 f3 f4 g0 g1 g2 g3
    obtain ⟨f0, f1, f2, f3, f4, g0, g1, g2, g3⟩ := HAll w2 H2.out.1
    have n0 : w2.cell? ⟨q1, 0, none⟩ = some (.int .i64 rt) := by rw [H2.out.2.cell]; rfl
    have n1 : w2.cell? ⟨q1, 1, none⟩ = some (.int .i64 rf) := by rw [H2.out.2.cell]; rfl
    have n2 : w2.cell? ⟨q1, 2, none⟩ = some (.int .i64 ri) := by rw [H2.out.2.cell]; rfl
    have n3 : w2.cell? ⟨q1, 3, none⟩ = some (.int .i64 rl) := by rw [H2.out.2.cell]; rfl
    have n4 : w2.cell? ⟨q1, 4, none⟩ = some (.bool rfr) := by rw [H2.out.2.cell]; rfl
    clear HQ
    go_wp2_with fail
    clear n0 n1 n2 n3 n4 f0 f1 f2 f3 f4 g0 g1 g2 g3
    obtain ⟨w3, hw3⟩ : ∃ w3, w3 = w2.alloc (.cells #[.int .i64 rt, .int .i64 rf, .int .i64 ri, .int .i64 rl, .bool rfr] 23) := ⟨_, rfl⟩
    have H3 := hid_mk (show w0.grownBy w3 none ∧ Blk w3 q1 #[.int .i64 rt, .int .i64 rf, .int .i64 ri, .int .i64 rl, .bool rfr] 26 ∧ Blk w3 w2.heap.size #[.int .i64 rt, .int .i64 rf, .int .i64 ri, .int .i64 rl, .bool rfr] 23 by
      rw [hw3]; exact ⟨ga H2.out.1 _, H2.out.2.kept (World.grownBy_alloc _ _ none) (by simp), heap_alloc_new w2 _⟩)
    rw [← hw3]
    clear hw3
    have HAll3 : ∀ W0, w3.grownBy W0 none → (W0.cell? ⟨w.heap.size, 0, none⟩ = some (.int .i64 mt) ∧ W0.cell? ⟨w.heap.size, 1, none⟩ = some (.int .i64 f) ∧ W0.cell? ⟨w.heap.size, 2, none⟩ = some (.int .i64 i) ∧ W0.cell? ⟨w.heap.size, 3, none⟩ = some (.int .i64 l) ∧ W0.cell? ⟨w.heap.size, 4, none⟩ = some (.bool fr) ∧ W0.cell? ⟨w.heap.size + 1, 0, none⟩ = some (.int .i64 at') ∧ W0.cell? ⟨w.heap.size + 1, 1, none⟩ = some (.int .i64 af) ∧ W0.cell? ⟨w.heap.size + 1, 2, none⟩ = some (.int .i64 ai) ∧ W0.cell? ⟨w.heap.size + 1, 3, none⟩ = some (.int .i64 al)) ∧
        W0.cell? ⟨q1, 0, none⟩ = some (.int .i64 rt) ∧ W0.cell? ⟨q1, 1, none⟩ = some (.int .i64 rf) ∧ W0.cell? ⟨q1, 2, none⟩ = some (.int .i64 ri) ∧ W0.cell? ⟨q1, 3, none⟩ = some (.int .i64 rl) ∧ W0.cell? ⟨q1, 4, none⟩ = some (.bool rfr) ∧
        W0.cell? ⟨w2.heap.size, 0, none⟩ = some (.int .i64 rt) ∧ W0.cell? ⟨w2.heap.size, 1, none⟩ = some (.int .i64 rf) ∧ W0.cell? ⟨w2.heap.size, 2, none⟩ = some (.int .i64 ri) ∧ W0.cell? ⟨w2.heap.size, 3, none⟩ = some (.int .i64 rl) ∧ W0.cell? ⟨w2.heap.size, 4, none⟩ = some (.bool rfr) := fun W0 hW => by
      have h1 := H3.out.2.1.kept hW (by simp)
      have h2 := H3.out.2.2.kept hW (by simp)
      refine ⟨HAll W0 (grown_trans H3.out.1 hW), ?_⟩
      exact ⟨by rw [h1.cell]; rfl, by rw [h1.cell]; rfl, by rw [h1.cell]; rfl, by rw [h1.cell]; rfl, by rw [h1.cell]; rfl, by rw [h2.cell]; rfl, by rw [h2.cell]; rfl, by rw [h2.cell]; rfl, by rw [h2.cell]; rfl, by rw [h2.cell]; rfl⟩
    clear HAll
    have HE' := HE.out
    have HKn := hid_mk knows_any
    refine wp_region_mixX (X := fun _ _ _ => False) [(0, true), (1, true), (2, false), (3, true), (4, true), (5, true), (6, true), (7, true), (8, true), (9, true), (10, true), (11, true), (12, true), (13, true), (14, true), (15, true), (16, true), (17, true), (18, true), (19, true), (20, true), (21, true), (22, true), (24, true), (25, true), (26, true), (27, true), (28, true), (29, true), (30, true), (31, true), (23, false), (32, false), (33, true), (34, true), (35, true), (36, false), (37, true), (38, true)] (cl w3 w3) (by kernel_rfl) (by kernel_rfl) rfl (by kernel_rfl) (fun _ _ _ h => h.elim) (shut_at0 (fun mm => grown_drewN _ mm _)) ⟨1, rfl⟩ ?_
    repeat (refine mix_rd1X rfl rfl (fun K hK => ?_); apply Exists.intro; refine ⟨fun W0 hW => ?_, ?_⟩; (obtain ⟨⟨f0, f1, f2, f3, f4, g0, g1, g2, g3⟩, n0, n1, n2, n3, n4, o0, o1, o2, o3, o4⟩ := HAll3 W0 hW; go_simp; rfl); (go_simp; refine hK _ _ ?_; clear hK K))
    refine bm_call (grown_refl _ _) 10 #[.agg #[.int .i64 rt, .int .i64 rf, .int .i64 ri, .int .i64 rl, .bool rfr]] (.agg #[.int .i64 rt, .int .i64 rf, .int .i64 ri, .int .i64 rl, .bool rfr]) rfl rfl (fun W => by go_simp) HP.out ?_
    intro K hK Wm1 HM1
    go_simp
    refine hK _ _ ?_
    clear hK K
    repeat (refine mix_rd1X rfl rfl (fun K hK => ?_); apply Exists.intro; refine ⟨fun W0 hW => ?_, ?_⟩; (obtain ⟨⟨f0, f1, f2, f3, f4, g0, g1, g2, g3⟩, n0, n1, n2, n3, n4, o0, o1, o2, o3, o4⟩ := HAll3 W0 hW; go_simp; rfl); (go_simp; refine hK _ _ ?_; clear hK K))
    refine bm_call HM1.out 13 #[.int .i64 ai, .int .i64 al, .int .i64 i, .int .i64 l] (.bool u) rfl rfl (fun W => by go_simp) HU.out ?_
    intro K hK Wm2 HM2
    go_simp
    refine hK _ _ ?_
    clear hK K
    refine bm_call HM2.out 14 #[.int .i64 ai, .int .i64 al, .int .i64 i, .int .i64 l] (.bool u) rfl rfl (fun W => by go_simp) HV.out ?_
    intro K hK Wm3 HM3
    go_simp
    refine hK _ _ ?_
    clear hK K
    repeat (refine mix_rd1X rfl rfl (fun K hK => ?_); apply Exists.intro; refine ⟨fun W0 hW => ?_, ?_⟩; (obtain ⟨⟨f0, f1, f2, f3, f4, g0, g1, g2, g3⟩, n0, n1, n2, n3, n4, o0, o1, o2, o3, o4⟩ := HAll3 W0 hW; go_simp; rfl); (go_simp; refine hK _ _ ?_; clear hK K))
    refine bm_call HM3.out 15 #[] (.bool true) rfl rfl (fun W => by go_simp) HKn.out ?_
    intro K hK Wm4 HM4
    go_simp
    refine hK _ _ ?_
    clear hK K
    repeat (refine mix_rd1X rfl rfl (fun K hK => ?_); apply Exists.intro; refine ⟨fun W0 hW => ?_, ?_⟩; (obtain ⟨⟨f0, f1, f2, f3, f4, g0, g1, g2, g3⟩, n0, n1, n2, n3, n4, o0, o1, o2, o3, o4⟩ := HAll3 W0 hW; go_simp; rfl); (go_simp; refine hK _ _ ?_; clear hK K))
    refine mix_nilX ?_
    rintro Wz ⟨mz, rfl⟩
    go_wp2_with fail
    go_ret
    exact ⟨rfl, grown_trans HG0.out (grown_trans H3.out.1 (grown_trans HM4.out (grown_drewN _ _ none)))⟩
end Go.Proofs.Ytgplhgogjcgmeaa
