/- watch: WatchMatches. -/
import Derived.Test.YtcijjepleedecaaWaN2
import Derived.Test.YtcijjepleedecaaWaJ
namespace Go.Proofs.Ytcijjepleedecaa.W
open Go.RowKit Go.Maps
set_option linter.unusedVariables false
set_option linter.unusedSimpArgs false
set_option maxRecDepth 100000
attribute [local go_sem] Oper.semAt_some


set_option maxHeartbeats 8000000 in
theorem matches_any (s s' : Sn) (v1 v2 : Value) (w : World) (h1 : EntsR w v1 s.es) (h2 : EntsR w v2 s'.es) (l1 : s.es.length * 48 ≤ 140737488355328) (l2 : s'.es.length * 48 ≤ 140737488355328) (ok1 : s.ok) (ok2 : s'.ok) :
    Calls Try.prog 4 #[seenV s v1, seenV s' v2] w fun e w' => e = .returned (.bool true) ∧ w.grownBy w' none := by
  obtain ⟨va, vc, rfl⟩ := h1.len
  obtain ⟨ua, uc, rfl⟩ := h2.len
  have HE := hid_mk (And.intro h1 h2)
  have HB := hid_mk (show I64 s.b ∧ I64 s'.b ∧ s.es.length * 48 ≤ 140737488355328 ∧ s'.es.length * 48 ≤ 140737488355328 from ⟨ok1.2.2, ok2.2.2, l1, l2⟩)
  have HSV : Hid (∀ (s : Sn) lv, seenV s lv = .agg #[.int .i64 s.id, .int .i64 s.term, .int .i64 s.com, .bool s.lead, .int .i64 s.b, .int .i64 s.t, lv]) := hid_mk fun _ _ => rfl
  have HVV : Hid (∀ b t lv, viewV b t lv = Value.agg #[.int .i64 b, .int .i64 t, lv]) := hid_mk fun _ _ _ => rfl
  have HA := hid_mk (SB.two w 32 s s' (.slice va s.es.length vc) (.slice ua s'.es.length uc))
  clear h1 h2 l1 l2 ok1 ok2
  rw [HSV.out, HSV.out]
  go_enter Try.func4, Try.ntmps4
  go_upto_region 1 with fail
  generalize (w.alloc (.cells #[.int .i64 s.id, .int .i64 s.term, .int .i64 s.com, .bool s.lead, .int .i64 s.b, .int .i64 s.t, .slice va s.es.length vc] 32)).alloc (.cells #[.int .i64 s'.id, .int .i64 s'.term, .int .i64 s'.com, .bool s'.lead, .int .i64 s'.b, .int .i64 s'.t, .slice ua s'.es.length uc] 32) = w1 at *
  obtain ⟨p2, hp2⟩ : ∃ p, p = w.heap.size := ⟨_, rfl⟩
  obtain ⟨q2, hq2⟩ : ∃ p, p = w.heap.size + 1 := ⟨_, rfl⟩
  rw [← hq2, ← hp2] at HA ⊢
  clear hp2 hq2
  obtain ⟨a0, a1, a2, a3, a4, a5, a6⟩ := HA.out.1.cells
  go_wp2_with fail
  clear a0 a1 a2 a3 a4 a5 a6
  rw [← HSV.out]
  refine (own_any s _ w1 (HE.out.1.kept HA.out.2.2) HB.out.2.2.1).mono ?_
  rintro e w2 ⟨lv1, rfl, hr1, hg⟩
  obtain ⟨xa, xc, rfl⟩ := hr1.len
  have H2 := hid_mk (show EntsR w2 (.slice xa s.es.length xc) s.es ∧ w1.grownBy w2 none from ⟨hr1, hg⟩)
  clear hr1 hg
  have H3 := hid_mk (And.intro (SB.new w2 28 s (.slice xa s.es.length xc)) (World.grownBy_alloc w2 (.cells #[.int .i64 s.id, .int .i64 s.term, .int .i64 s.com, .bool s.lead, .int .i64 s.b, .int .i64 s.t, .slice xa s.es.length xc] 28) none))
  rw [HSV.out]
  go_upto_region 2 with fail
  generalize w2.alloc (.cells #[.int .i64 s.id, .int .i64 s.term, .int .i64 s.com, .bool s.lead, .int .i64 s.b, .int .i64 s.t, .slice xa s.es.length xc] 28) = w3 at *
  obtain ⟨p, hp⟩ : ∃ p, p = w2.heap.size := ⟨_, rfl⟩
  rw [← hp] at H3 ⊢
  clear hp
  obtain ⟨a0, a1, a2, a3, a4, a5, a6⟩ := (HA.out.2.1.kept (grown_trans H2.out.2 H3.out.2) (by simp)).cells
  go_wp2_with fail
  clear a0 a1 a2 a3 a4 a5 a6
  rw [← HSV.out s' (.slice ua s'.es.length uc)]
  refine (own_any s' _ w3 (HE.out.2.kept (grown_trans HA.out.2.2 (grown_trans H2.out.2 H3.out.2))) HB.out.2.2.2).mono ?_
  rintro e w4 ⟨lv2, rfl, hr2, hg⟩
  obtain ⟨ya, yc, rfl⟩ := hr2.len
  have H4 := hid_mk (show EntsR w4 (.slice ya s'.es.length yc) s'.es ∧ w3.grownBy w4 none from ⟨hr2, hg⟩)
  clear hr2 hg
  have H5 := hid_mk (And.intro (SB.new w4 28 s' (.slice ya s'.es.length yc)) (World.grownBy_alloc w4 (.cells #[.int .i64 s'.id, .int .i64 s'.term, .int .i64 s'.com, .bool s'.lead, .int .i64 s'.b, .int .i64 s'.t, .slice ya s'.es.length yc] 28) none))
  rw [HSV.out s']
  go_upto_region 3 with fail
  generalize w4.alloc (.cells #[.int .i64 s'.id, .int .i64 s'.term, .int .i64 s'.com, .bool s'.lead, .int .i64 s'.b, .int .i64 s'.t, .slice ya s'.es.length yc] 28) = w5 at *
  obtain ⟨q, hq⟩ : ∃ q, q = w4.heap.size := ⟨_, rfl⟩
  rw [← hq] at H5 ⊢
  clear hq
  have H := hid_mk (show SB w5 p 28 s (.slice xa s.es.length xc) ∧ SB w5 q 28 s' (.slice ya s'.es.length yc) ∧ EntsR w5 (.slice xa s.es.length xc) s.es ∧ EntsR w5 (.slice ya s'.es.length yc) s'.es ∧ EntsR w5 (.slice va s.es.length vc) s.es ∧ EntsR w5 (.slice ua s'.es.length uc) s'.es ∧ SB w5 p2 32 s (.slice va s.es.length vc) ∧ SB w5 q2 32 s' (.slice ua s'.es.length uc) ∧ w.grownBy w5 none from by
    have g35 := grown_trans H4.out.2 H5.out.2
    have g25 := grown_trans H3.out.2 g35
    have g15 := grown_trans H2.out.2 g25
    have g := grown_trans HA.out.2.2 g15
    exact ⟨H3.out.1.kept g35 (by simp), H5.out.1, H2.out.1.kept g25, H4.out.1.kept H5.out.2, HE.out.1.kept g, HE.out.2.kept g, HA.out.1.kept g15 (by simp), HA.out.2.1.kept g15 (by simp), g⟩)
  clear HA H2 H3 H4 H5 HE
  have HCL : ∀ W, w5.grownBy W none → (W.cell? ⟨p, 0, none⟩ = some (.int .i64 s.id) ∧ W.cell? ⟨p, 1, none⟩ = some (.int .i64 s.term) ∧ W.cell? ⟨p, 2, none⟩ = some (.int .i64 s.com) ∧ W.cell? ⟨p, 3, none⟩ = some (.bool s.lead) ∧ W.cell? ⟨p, 4, none⟩ = some (.int .i64 s.b) ∧ W.cell? ⟨p, 5, none⟩ = some (.int .i64 s.t) ∧ W.cell? ⟨p, 6, none⟩ = some (.slice xa s.es.length xc)) ∧ (W.cell? ⟨q, 0, none⟩ = some (.int .i64 s'.id) ∧ W.cell? ⟨q, 1, none⟩ = some (.int .i64 s'.term) ∧ W.cell? ⟨q, 2, none⟩ = some (.int .i64 s'.com) ∧ W.cell? ⟨q, 3, none⟩ = some (.bool s'.lead) ∧ W.cell? ⟨q, 4, none⟩ = some (.int .i64 s'.b) ∧ W.cell? ⟨q, 5, none⟩ = some (.int .i64 s'.t) ∧ W.cell? ⟨q, 6, none⟩ = some (.slice ya s'.es.length yc)) ∧ (W.cell? ⟨p2, 0, none⟩ = some (.int .i64 s.id) ∧ W.cell? ⟨p2, 1, none⟩ = some (.int .i64 s.term) ∧ W.cell? ⟨p2, 2, none⟩ = some (.int .i64 s.com) ∧ W.cell? ⟨p2, 3, none⟩ = some (.bool s.lead) ∧ W.cell? ⟨p2, 4, none⟩ = some (.int .i64 s.b) ∧ W.cell? ⟨p2, 5, none⟩ = some (.int .i64 s.t) ∧ W.cell? ⟨p2, 6, none⟩ = some (.slice va s.es.length vc)) ∧ (W.cell? ⟨q2, 0, none⟩ = some (.int .i64 s'.id) ∧ W.cell? ⟨q2, 1, none⟩ = some (.int .i64 s'.term) ∧ W.cell? ⟨q2, 2, none⟩ = some (.int .i64 s'.com) ∧ W.cell? ⟨q2, 3, none⟩ = some (.bool s'.lead) ∧ W.cell? ⟨q2, 4, none⟩ = some (.int .i64 s'.b) ∧ W.cell? ⟨q2, 5, none⟩ = some (.int .i64 s'.t) ∧ W.cell? ⟨q2, 6, none⟩ = some (.slice ua s'.es.length uc)) := fun W hW => ⟨(H.out.1.kept hW (by simp)).cells, (H.out.2.1.kept hW (by simp)).cells, (H.out.2.2.2.2.2.2.1.kept hW (by simp)).cells, (H.out.2.2.2.2.2.2.2.1.kept hW (by simp)).cells⟩
  have G0 := hid_mk (grown_refl w5 (none : Option Nat))
  obtain ⟨M, hM⟩ : ∃ M, M = s.match s' := ⟨_, rfl⟩
  obtain ⟨A, hA⟩ : ∃ A, A = s.agree s' := ⟨_, rfl⟩
  have HM := hid_mk (show s.match s' = M ∧ s.agree s' = A from ⟨hM.symm, hA.symm⟩)
  clear hM hA
  refine wp_region_mix [(0, true), (1, true), (2, true), (3, true), (5, true), (6, true), (7, true), (8, true), (4, false), (9, false), (10, true), (11, true), (12, true), (13, true), (15, true), (16, true), (14, false), (17, false), (18, true), (19, true), (20, true), (21, true), (22, true), (23, true), (24, true), (25, false), (26, true), (27, true), (28, false), (29, true), (30, true)] (at0 w5 (fun W => w5.grownBy W none)) (by kernel_rfl) (by kernel_rfl) rfl (by kernel_rfl) (shut_at0 (fun m => grown_drewN _ m none)) ⟨1, rfl⟩ ?_
  iterate 8 (refine mix_rd1 rfl rfl (fun K hK => ?_); apply Exists.intro; refine ⟨fun W hW => ?_, ?_⟩; (obtain ⟨⟨c0, c1, c2, c3, c4, c5, c6⟩, ⟨c7, c8, c9, d0, d1, d2, d3⟩, ⟨r0, r1, r2, r3, r4, r5, r6⟩, r7, r8, r9, t0, t1, t2, t3⟩ := HCL W hW; go_simp; rfl); (go_simp; refine hK _ _ ?_; clear hK K))
  refine mix_call rfl rfl 13 #[viewV s.b s.t (.slice xa s.es.length xc), viewV s'.b s'.t (.slice ya s'.es.length yc)] (fun W => by rw [HVV.out, HVV.out]; go_simp) ?_
  rintro W ⟨m1, rfl⟩
  refine (match_any _ _ _ s.es _ _ _ s'.es (w5.drewN m1) (H.out.2.2.1.kept (grown_drewN _ m1 none)) (H.out.2.2.2.1.kept (grown_drewN _ m1 none)) (by have := HB.out.2.2.1; omega) (by have := HB.out.2.2.2; omega) HB.out.1 HB.out.2.1).mono ?_
  rintro e w6 ⟨rfl, hg⟩
  have G1 := hid_mk (show w5.grownBy w6 none from grown_trans (grown_trans G0.out (grown_drewN _ m1 none)) hg)
  clear hg
  rw [show matchZ (whB s.b s.t s.es) (whE s.b s.t s.es) (whB s'.b s'.t s'.es) (whE s'.b s'.t s'.es) = M from HM.out.1]
  refine ⟨_, rfl, at0 w6 (fun W => w5.grownBy W none), ⟨0, rfl⟩, shut_at0 (all_kept G1.out), fun _ h => h, ?_⟩
  refine mix_call rfl rfl 14 #[viewV s.b s.t (.slice va s.es.length vc), viewV s'.b s'.t (.slice ua s'.es.length uc)] (fun W => by rw [HVV.out, HVV.out]; go_simp) ?_
  rintro W ⟨m2, rfl⟩
  refine (rmatch_any _ _ _ s.es _ _ _ s'.es (w6.drewN m2) (H.out.2.2.2.2.1.kept (grown_trans G1.out (grown_drewN _ m2 none))) (H.out.2.2.2.2.2.1.kept (grown_trans G1.out (grown_drewN _ m2 none))) (by have := HB.out.2.2.1; omega) (by have := HB.out.2.2.2; omega)).mono ?_
  rintro e w7 ⟨rfl, hg⟩
  have G2 := hid_mk (show w5.grownBy w7 none from grown_trans (grown_trans G1.out (grown_drewN _ m2 none)) hg)
  clear hg
  rw [show matchZ (whB s.b s.t s.es) (whE s.b s.t s.es) (whB s'.b s'.t s'.es) (whE s'.b s'.t s'.es) = M from HM.out.1]
  refine ⟨_, rfl, at0 w7 (fun W => w5.grownBy W none), ⟨0, rfl⟩, shut_at0 (all_kept G2.out), fun _ h => h, ?_⟩
  iterate 6 (refine mix_rd1 rfl rfl (fun K hK => ?_); apply Exists.intro; refine ⟨fun W hW => ?_, ?_⟩; (obtain ⟨⟨c0, c1, c2, c3, c4, c5, c6⟩, ⟨c7, c8, c9, d0, d1, d2, d3⟩, ⟨r0, r1, r2, r3, r4, r5, r6⟩, r7, r8, r9, t0, t1, t2, t3⟩ := HCL W hW; go_simp; rfl); (go_simp; refine hK _ _ ?_; clear hK K))
  refine mix_call rfl rfl 15 #[seenV s (.slice xa s.es.length xc), seenV s' (.slice ya s'.es.length yc)] (fun W => by go_simp; exact ⟨rfl, rfl⟩) ?_
  rintro W ⟨m3, rfl⟩
  refine (agree_any s s' _ _ (w7.drewN m3) (H.out.2.2.1.kept (grown_trans G2.out (grown_drewN _ m3 none))) (H.out.2.2.2.1.kept (grown_trans G2.out (grown_drewN _ m3 none))) (by have := HB.out.2.2.1; omega) (by have := HB.out.2.2.2; omega) HB.out.1 HB.out.2.1).mono ?_
  rintro e w8 ⟨rfl, hg⟩
  have G3 := hid_mk (show w5.grownBy w8 none from grown_trans (grown_trans G2.out (grown_drewN _ m3 none)) hg)
  clear hg
  rw [HM.out.2]
  refine ⟨_, rfl, at0 w8 (fun W => w5.grownBy W none), ⟨0, rfl⟩, shut_at0 (all_kept G3.out), fun _ h => h, ?_⟩
  refine mix_call rfl rfl 16 #[seenV s (.slice va s.es.length vc), seenV s' (.slice ua s'.es.length uc)] (fun W => by go_simp; exact ⟨rfl, rfl⟩) ?_
  rintro W ⟨m4, rfl⟩
  refine (ragree_any s s' _ _ (w8.drewN m4) (H.out.2.2.2.2.1.kept (grown_trans G3.out (grown_drewN _ m4 none))) (H.out.2.2.2.2.2.1.kept (grown_trans G3.out (grown_drewN _ m4 none))) (by have := HB.out.2.2.1; omega) (by have := HB.out.2.2.2; omega)).mono ?_
  rintro e w9 ⟨rfl, hg⟩
  have G4 := hid_mk (show w5.grownBy w9 none from grown_trans (grown_trans G3.out (grown_drewN _ m4 none)) hg)
  clear hg
  rw [HM.out.2]
  refine ⟨_, rfl, at0 w9 (fun W => w5.grownBy W none), ⟨0, rfl⟩, shut_at0 (all_kept G4.out), fun _ h => h, ?_⟩
  iterate 7 (refine mix_rd1 rfl rfl (fun K hK => ?_); apply Exists.intro; refine ⟨fun W hW => ?_, ?_⟩; (obtain ⟨⟨c0, c1, c2, c3, c4, c5, c6⟩, ⟨c7, c8, c9, d0, d1, d2, d3⟩, ⟨r0, r1, r2, r3, r4, r5, r6⟩, r7, r8, r9, t0, t1, t2, t3⟩ := HCL W hW; go_simp; rfl); (go_simp; refine hK _ _ ?_; clear hK K))
  refine mix_call rfl rfl 17 #[viewV s.b s.t (.slice xa s.es.length xc), viewV s.b s.t (.slice va s.es.length vc)] (fun W => by rw [HVV.out, HVV.out]; go_simp) ?_
  rintro W ⟨m5, rfl⟩
  refine (sameV_any s.b s.t _ _ s.es (w9.drewN m5) (H.out.2.2.1.kept (grown_trans G4.out (grown_drewN _ m5 none))) (H.out.2.2.2.2.1.kept (grown_trans G4.out (grown_drewN _ m5 none))) (by have := HB.out.2.2.1; omega)).mono ?_
  rintro e w10 ⟨rfl, hg⟩
  have G5 := hid_mk (show w5.grownBy w10 none from grown_trans (grown_trans G4.out (grown_drewN _ m5 none)) hg)
  clear hg
  refine ⟨_, rfl, at0 w10 (fun W => w5.grownBy W none), ⟨0, rfl⟩, shut_at0 (all_kept G5.out), fun _ h => h, ?_⟩
  iterate 2 (refine mix_rd1 rfl rfl (fun K hK => ?_); apply Exists.intro; refine ⟨fun W hW => ?_, ?_⟩; (go_simp; rfl); (go_simp; refine hK _ _ ?_; clear hK K))
  refine mix_call rfl rfl 12 #[] (fun W => by go_simp) ?_
  rintro W ⟨m6, rfl⟩
  refine (knows_any (w10.drewN m6)).mono ?_
  rintro e w11 ⟨rfl, hg⟩
  have G6 := hid_mk (show w5.grownBy w11 none from grown_trans (grown_trans G5.out (grown_drewN _ m6 none)) hg)
  clear hg
  refine ⟨_, rfl, at0 w11 (fun W => w5.grownBy W none), ⟨0, rfl⟩, shut_at0 (all_kept G6.out), fun _ h => h, ?_⟩

  repeat (refine mix_rd1 rfl rfl (fun K hK => ?_); apply Exists.intro; refine ⟨fun W hW => ?_, ?_⟩; (go_simp; rfl); (go_simp; refine hK _ _ ?_; clear hK K))
  refine mix_nil ?_
  rintro W ⟨m7, rfl⟩
  have H6 := hid_mk (show w.grownBy (w11.drewN m7) none from grown_trans H.out.2.2.2.2.2.2.2.2 (grown_trans G6.out (grown_drewN _ m7 none)))
  generalize w11.drewN m7 = w12 at *
  go_wp2_with fail
  go_ret
  exact ⟨rfl, H6.out⟩
end Go.Proofs.Ytcijjepleedecaa.W
