/- watch: WatchBoth. -/
import Derived.Test.YtcijjepleedecaaWaR
import Derived.Test.YtcijjepleedecaaWaJ
namespace Go.Proofs.Ytcijjepleedecaa.W
open Go.RowKit Go.Maps
set_option linter.unusedVariables false
set_option linter.unusedSimpArgs false
set_option maxRecDepth 100000
attribute [local go_sem] Oper.semAt_some


theorem lead_ss {s : Sn} {z : Int} (h : Lead [s, s] z) : z = -1 := h.one (.inr ⟨fun j r hj hr => by
  match j, hr with
  | 0, hr => rfl
  | 1, hr =>
    cases hr
    unfold badL
    simp [clash2], rfl⟩)
theorem tmod_lowB {z m : Int} (hm : 0 < m) : -m < z.tmod m ∧ z.tmod m < m := by
  refine ⟨?_, Int.tmod_lt_of_pos z hm⟩
  rcases Int.le_total 0 z with h | h
  · have := Int.tmod_nonneg m h
    omega
  · obtain ⟨y, rfl⟩ : ∃ y, z = -y := ⟨-z, by omega⟩
    rw [Int.neg_tmod]
    have := Int.tmod_lt_of_pos y hm
    omega
theorem md_thou (z : Int) : ∃ F : Int, (wrap64 (z.tmod 1000 + 1000)).tmod 1000 = F ∧ 0 ≤ F ∧ F ≤ 1000 := by
  have h1 := tmod_lowB (z := z) (show (0 : Int) < 1000 by omega)
  rw [show wrap64 (z.tmod 1000 + 1000) = z.tmod 1000 + 1000 from by unfold wrap64; omega]
  have h2 := Int.tmod_nonneg 1000 (show 0 ≤ z.tmod 1000 + 1000 by omega)
  have h3 := Int.tmod_lt_of_pos (z.tmod 1000 + 1000) (show (0 : Int) < 1000 by omega)
  exact ⟨_, rfl, h2, by omega⟩

set_option maxHeartbeats 8000000 in
theorem both_any (s s' : Sn) (v1 v2 va vb : Value) (R S : List (List UInt8 × Value)) (f o : Int) (w : World) (h1 : EntsR w v1 s.es) (h2 : EntsR w v2 s'.es) (hR : RecR w va R) (hS : RecR w vb S) (l1 : s.es.length * 48 ≤ 140737488355328) (l2 : s'.es.length * 48 ≤ 140737488355328) (l3 : R.length ≤ 5864062014805) (l4 : S.length ≤ 5864062014805) (ok1 : s.ok) (ok2 : s'.ok) (hf : I64 f) (ho : I64 o) :
    Calls Try.prog 7 #[seenV s v1, seenV s' v2, va, vb, .int .i64 f, .int .i64 o] w fun e w' => e = .returned (.bool true) ∧ w.grownBy w' none := by
  have HE := hid_mk (And.intro h1 (And.intro h2 (And.intro hR hS)))
  obtain ⟨F, hF, hF0, hF1⟩ := md_thou f
  obtain ⟨O, hO, hO0, hO1⟩ := md_thou o
  have HFO := hid_mk (And.intro hF hO)
  have HB := hid_mk (show (0 ≤ F ∧ F ≤ 1000) ∧ (0 ≤ O ∧ O ≤ 1000) ∧ I64 s.b ∧ I64 s'.b ∧ s.es.length * 48 ≤ 140737488355328 ∧ s'.es.length * 48 ≤ 140737488355328 ∧ R.length ≤ 10000000000000 ∧ S.length ≤ 10000000000000 ∧ s.ok from ⟨⟨hF0, hF1⟩, ⟨hO0, hO1⟩, ok1.2.2, ok2.2.2, l1, l2, by omega, by omega, ok1⟩)
  have HSV : Hid (∀ (s : Sn) lv, seenV s lv = .agg #[.int .i64 s.id, .int .i64 s.term, .int .i64 s.com, .bool s.lead, .int .i64 s.b, .int .i64 s.t, lv]) := hid_mk fun _ _ => rfl
  have HVV : Hid (∀ b t lv, viewV b t lv = Value.agg #[.int .i64 b, .int .i64 t, lv]) := hid_mk fun _ _ _ => rfl
  have HA := hid_mk (SB.two w 32 s s' v1 v2)
  clear h1 h2 hR hS hF hF0 hF1 hO hO0 hO1 l1 l2 l3 l4 ok1 ok2 hf ho
  rw [HSV.out, HSV.out]
  go_enter Try.func7, Try.ntmps7
  go_upto_region 1 with fail
  generalize (w.alloc (.cells #[.int .i64 s.id, .int .i64 s.term, .int .i64 s.com, .bool s.lead, .int .i64 s.b, .int .i64 s.t, v1] 32)).alloc (.cells #[.int .i64 s'.id, .int .i64 s'.term, .int .i64 s'.com, .bool s'.lead, .int .i64 s'.b, .int .i64 s'.t, v2] 32) = w1 at *
  obtain ⟨a0, a1, a2, a3, a4, a5, a6⟩ := HA.out.1.cells
  go_wp2_with fail
  clear a0 a1 a2 a3 a4 a5 a6
  rw [← HSV.out]
  refine (own_any s _ w1 (HE.out.1.kept HA.out.2.2) HB.out.2.2.2.2.1).mono ?_
  rintro e w2 ⟨lv1, rfl, hr1, hg⟩
  obtain ⟨xa, xc, rfl⟩ := hr1.len
  have H2 := hid_mk (show EntsR w2 (.slice xa s.es.length xc) s.es ∧ w1.grownBy w2 none from ⟨hr1, hg⟩)
  clear hr1 hg
  have H3 := hid_mk (And.intro (SB.new w2 28 s (.slice xa s.es.length xc)) (World.grownBy_alloc w2 (.cells #[.int .i64 s.id, .int .i64 s.term, .int .i64 s.com, .bool s.lead, .int .i64 s.b, .int .i64 s.t, .slice xa s.es.length xc] 28) none))
  rw [HSV.out]
  go_upto_region 2 with fail
  generalize w2.alloc (.cells #[.int .i64 s.id, .int .i64 s.term, .int .i64 s.com, .bool s.lead, .int .i64 s.b, .int .i64 s.t, .slice xa s.es.length xc] 28) = w3 at *
  obtain ⟨p, hp⟩ : ∃ p, p = w2.heap.size := ⟨_, rfl⟩
  rw [← hp] at H3 ⊢
  clear hp
  obtain ⟨a0, a1, a2, a3, a4, a5, a6⟩ := (HA.out.2.1.kept (grown_trans H2.out.2 H3.out.2) (by simp)).cells
  go_wp2_with fail
  clear a0 a1 a2 a3 a4 a5 a6
  rw [← HSV.out s' v2]
  refine (own_any s' _ w3 (HE.out.2.1.kept (grown_trans HA.out.2.2 (grown_trans H2.out.2 H3.out.2))) HB.out.2.2.2.2.2.1).mono ?_
  rintro e w4 ⟨lv2, rfl, hr2, hg⟩
  obtain ⟨ya, yc, rfl⟩ := hr2.len
  have H4 := hid_mk (show EntsR w4 (.slice ya s'.es.length yc) s'.es ∧ w3.grownBy w4 none from ⟨hr2, hg⟩)
  clear hr2 hg
  have H5 := hid_mk (And.intro (SB.new w4 28 s' (.slice ya s'.es.length yc)) (World.grownBy_alloc w4 (.cells #[.int .i64 s'.id, .int .i64 s'.term, .int .i64 s'.com, .bool s'.lead, .int .i64 s'.b, .int .i64 s'.t, .slice ya s'.es.length yc] 28) none))
  rw [HSV.out s']
  go_upto_region 5 with fail
  rw [HFO.out.1, HFO.out.2]
  generalize w4.alloc (.cells #[.int .i64 s'.id, .int .i64 s'.term, .int .i64 s'.com, .bool s'.lead, .int .i64 s'.b, .int .i64 s'.t, .slice ya s'.es.length yc] 28) = w5 at *
  obtain ⟨q, hq⟩ : ∃ q, q = w4.heap.size := ⟨_, rfl⟩
  rw [← hq] at H5 ⊢
  clear hq
  have H := hid_mk (show SB w5 p 28 s (.slice xa s.es.length xc) ∧ SB w5 q 28 s' (.slice ya s'.es.length yc) ∧ EntsR w5 (.slice xa s.es.length xc) s.es ∧ EntsR w5 (.slice ya s'.es.length yc) s'.es ∧ RecR w5 va R ∧ RecR w5 vb S ∧ w.grownBy w5 none from by
    have g35 := grown_trans H4.out.2 H5.out.2
    have g25 := grown_trans H3.out.2 g35
    have g := grown_trans HA.out.2.2 (grown_trans H2.out.2 g25)
    exact ⟨H3.out.1.kept g35 (by simp), H5.out.1, H2.out.1.kept g25, H4.out.1.kept H5.out.2, HE.out.2.2.1.kept g, HE.out.2.2.2.kept g, g⟩)
  clear HA H2 H3 H4 H5 HE HFO
  have HCL : ∀ W, w5.grownBy W none → (W.cell? ⟨p, 0, none⟩ = some (.int .i64 s.id) ∧ W.cell? ⟨p, 1, none⟩ = some (.int .i64 s.term) ∧ W.cell? ⟨p, 2, none⟩ = some (.int .i64 s.com) ∧ W.cell? ⟨p, 3, none⟩ = some (.bool s.lead) ∧ W.cell? ⟨p, 4, none⟩ = some (.int .i64 s.b) ∧ W.cell? ⟨p, 5, none⟩ = some (.int .i64 s.t) ∧ W.cell? ⟨p, 6, none⟩ = some (.slice xa s.es.length xc)) ∧ W.cell? ⟨q, 0, none⟩ = some (.int .i64 s'.id) ∧ W.cell? ⟨q, 1, none⟩ = some (.int .i64 s'.term) ∧ W.cell? ⟨q, 2, none⟩ = some (.int .i64 s'.com) ∧ W.cell? ⟨q, 3, none⟩ = some (.bool s'.lead) ∧ W.cell? ⟨q, 4, none⟩ = some (.int .i64 s'.b) ∧ W.cell? ⟨q, 5, none⟩ = some (.int .i64 s'.t) ∧ W.cell? ⟨q, 6, none⟩ = some (.slice ya s'.es.length yc) := fun W hW => ⟨(H.out.1.kept hW (by simp)).cells, (H.out.2.1.kept hW (by simp)).cells⟩
  have G0 := hid_mk (grown_refl w5 (none : Option Nat))
  obtain ⟨M, hM⟩ : ∃ M, M = s.match s' := ⟨_, rfl⟩
  obtain ⟨A, hA⟩ : ∃ A, A = s.agree s' := ⟨_, rfl⟩
  obtain ⟨C, hC⟩ : ∃ C, C = sameR R S F O := ⟨_, rfl⟩
  have HM := hid_mk (show s.match s' = M ∧ s'.match s = M ∧ s.agree s' = A ∧ s'.agree s = A ∧ sameR R S F O = C ∧ sameR S R O F = C from ⟨hM.symm, by rw [hM]; exact match_swap _ _ _ _, hA.symm, by rw [hA]; exact agree_swap _ _ _ _ _ _, hC.symm, by rw [hC]; exact sameR_swap R S F O⟩)
  clear hM hA hC
  refine wp_region_mix [(0, true), (1, true), (2, true), (3, true), (5, true), (6, true), (7, true), (8, true), (4, false), (9, false), (10, true), (11, true), (12, true), (13, true), (15, true), (16, true), (14, false), (17, false), (18, true), (19, true), (20, true), (21, true), (22, true), (23, true), (24, true), (26, true), (27, true), (28, true), (29, true), (25, false), (30, false), (31, true), (32, true)] (at0 w5 (fun W => w5.grownBy W none)) (by kernel_rfl) (by kernel_rfl) rfl (by kernel_rfl) (shut_at0 (fun m => grown_drewN _ m none)) ⟨1, rfl⟩ ?_
  iterate 8 (refine mix_rd1 rfl rfl (fun K hK => ?_); apply Exists.intro; refine ⟨fun W hW => ?_, ?_⟩; (obtain ⟨⟨c0, c1, c2, c3, c4, c5, c6⟩, c7, c8, c9, d0, d1, d2, d3⟩ := HCL W hW; go_simp; rfl); (go_simp; refine hK _ _ ?_; clear hK K))
  refine mix_call rfl rfl 13 #[viewV s.b s.t (.slice xa s.es.length xc), viewV s'.b s'.t (.slice ya s'.es.length yc)] (fun W => by rw [HVV.out, HVV.out]; go_simp) ?_
  rintro W ⟨m1, rfl⟩
  refine (match_any _ _ _ s.es _ _ _ s'.es (w5.drewN m1) (H.out.2.2.1.kept (grown_drewN _ m1 none)) (H.out.2.2.2.1.kept (grown_drewN _ m1 none)) (by have := HB.out.2.2.2.2.1; omega) (by have := HB.out.2.2.2.2.2.1; omega) HB.out.2.2.1 HB.out.2.2.2.1).mono ?_
  rintro e w6 ⟨rfl, hg⟩
  have G1 := hid_mk (show w5.grownBy w6 none from grown_trans (grown_trans G0.out (grown_drewN _ m1 none)) hg)
  clear hg
  rw [show matchZ (whB s.b s.t s.es) (whE s.b s.t s.es) (whB s'.b s'.t s'.es) (whE s'.b s'.t s'.es) = M from HM.out.1]
  refine ⟨_, rfl, at0 w6 (fun W => w5.grownBy W none), ⟨0, rfl⟩, shut_at0 (all_kept G1.out), fun _ h => h, ?_⟩
  refine mix_call rfl rfl 13 #[viewV s'.b s'.t (.slice ya s'.es.length yc), viewV s.b s.t (.slice xa s.es.length xc)] (fun W => by rw [HVV.out, HVV.out]; go_simp) ?_
  rintro W ⟨m2, rfl⟩
  refine (match_any _ _ _ s'.es _ _ _ s.es (w6.drewN m2) (H.out.2.2.2.1.kept (grown_trans G1.out (grown_drewN _ m2 none))) (H.out.2.2.1.kept (grown_trans G1.out (grown_drewN _ m2 none))) (by have := HB.out.2.2.2.2.2.1; omega) (by have := HB.out.2.2.2.2.1; omega) HB.out.2.2.2.1 HB.out.2.2.1).mono ?_
  rintro e w7 ⟨rfl, hg⟩
  have G2 := hid_mk (show w5.grownBy w7 none from grown_trans (grown_trans G1.out (grown_drewN _ m2 none)) hg)
  clear hg
  rw [show matchZ (whB s'.b s'.t s'.es) (whE s'.b s'.t s'.es) (whB s.b s.t s.es) (whE s.b s.t s.es) = M from HM.out.2.1]
  refine ⟨_, rfl, at0 w7 (fun W => w5.grownBy W none), ⟨0, rfl⟩, shut_at0 (all_kept G2.out), fun _ h => h, ?_⟩
  iterate 6 (refine mix_rd1 rfl rfl (fun K hK => ?_); apply Exists.intro; refine ⟨fun W hW => ?_, ?_⟩; (obtain ⟨⟨c0, c1, c2, c3, c4, c5, c6⟩, c7, c8, c9, d0, d1, d2, d3⟩ := HCL W hW; go_simp; rfl); (go_simp; refine hK _ _ ?_; clear hK K))
  refine mix_call rfl rfl 15 #[seenV s (.slice xa s.es.length xc), seenV s' (.slice ya s'.es.length yc)] (fun W => by go_simp; exact ⟨rfl, rfl⟩) ?_
  rintro W ⟨m3, rfl⟩
  refine (agree_any s s' _ _ (w7.drewN m3) (H.out.2.2.1.kept (grown_trans G2.out (grown_drewN _ m3 none))) (H.out.2.2.2.1.kept (grown_trans G2.out (grown_drewN _ m3 none))) (by have := HB.out.2.2.2.2.1; omega) (by have := HB.out.2.2.2.2.2.1; omega) HB.out.2.2.1 HB.out.2.2.2.1).mono ?_
  rintro e w8 ⟨rfl, hg⟩
  have G3 := hid_mk (show w5.grownBy w8 none from grown_trans (grown_trans G2.out (grown_drewN _ m3 none)) hg)
  clear hg
  rw [HM.out.2.2.1]
  refine ⟨_, rfl, at0 w8 (fun W => w5.grownBy W none), ⟨0, rfl⟩, shut_at0 (all_kept G3.out), fun _ h => h, ?_⟩
  refine mix_call rfl rfl 15 #[seenV s' (.slice ya s'.es.length yc), seenV s (.slice xa s.es.length xc)] (fun W => by go_simp; exact ⟨rfl, rfl⟩) ?_
  rintro W ⟨m4, rfl⟩
  refine (agree_any s' s _ _ (w8.drewN m4) (H.out.2.2.2.1.kept (grown_trans G3.out (grown_drewN _ m4 none))) (H.out.2.2.1.kept (grown_trans G3.out (grown_drewN _ m4 none))) (by have := HB.out.2.2.2.2.2.1; omega) (by have := HB.out.2.2.2.2.1; omega) HB.out.2.2.2.1 HB.out.2.2.1).mono ?_
  rintro e w9 ⟨rfl, hg⟩
  have G4 := hid_mk (show w5.grownBy w9 none from grown_trans (grown_trans G3.out (grown_drewN _ m4 none)) hg)
  clear hg
  rw [HM.out.2.2.2.1]
  refine ⟨_, rfl, at0 w9 (fun W => w5.grownBy W none), ⟨0, rfl⟩, shut_at0 (all_kept G4.out), fun _ h => h, ?_⟩
  iterate 11 (refine mix_rd1 rfl rfl (fun K hK => ?_); apply Exists.intro; refine ⟨fun W hW => ?_, ?_⟩; (go_simp; rfl); (go_simp; refine hK _ _ ?_; clear hK K))
  refine mix_call rfl rfl 21 #[va, vb, .int .i64 F, .int .i64 O] (fun W => by go_simp) ?_
  rintro W ⟨m5, rfl⟩
  refine (same_recs va vb R S F O (w9.drewN m5) (H.out.2.2.2.2.1.kept (grown_trans G4.out (grown_drewN _ m5 none))) (H.out.2.2.2.2.2.1.kept (grown_trans G4.out (grown_drewN _ m5 none))) HB.out.2.2.2.2.2.2.1 HB.out.2.2.2.2.2.2.2.1 HB.out.1 HB.out.2.1).mono ?_
  rintro e w10 ⟨rfl, hg⟩
  have G5 := hid_mk (show w5.grownBy w10 none from grown_trans (grown_trans G4.out (grown_drewN _ m5 none)) hg)
  clear hg
  rw [HM.out.2.2.2.2.1]
  refine ⟨_, rfl, at0 w10 (fun W => w5.grownBy W none), ⟨0, rfl⟩, shut_at0 (all_kept G5.out), fun _ h => h, ?_⟩
  refine mix_call rfl rfl 21 #[vb, va, .int .i64 O, .int .i64 F] (fun W => by go_simp) ?_
  rintro W ⟨m6, rfl⟩
  refine (same_recs vb va S R O F (w10.drewN m6) (H.out.2.2.2.2.2.1.kept (grown_trans G5.out (grown_drewN _ m6 none))) (H.out.2.2.2.2.1.kept (grown_trans G5.out (grown_drewN _ m6 none))) HB.out.2.2.2.2.2.2.2.1 HB.out.2.2.2.2.2.2.1 HB.out.2.1 HB.out.1).mono ?_
  rintro e w11 ⟨rfl, hg⟩
  have G6 := hid_mk (show w5.grownBy w11 none from grown_trans (grown_trans G5.out (grown_drewN _ m6 none)) hg)
  clear hg
  rw [HM.out.2.2.2.2.2]
  refine ⟨_, rfl, at0 w11 (fun W => w5.grownBy W none), ⟨0, rfl⟩, shut_at0 (all_kept G6.out), fun _ h => h, ?_⟩

  repeat (refine mix_rd1 rfl rfl (fun K hK => ?_); apply Exists.intro; refine ⟨fun W hW => ?_, ?_⟩; (go_simp; rfl); (go_simp; refine hK _ _ ?_; clear hK K))
  refine mix_nil ?_
  rintro W ⟨m7, rfl⟩
  have H6 := hid_mk (show w5.grownBy (w11.drewN m7) none from grown_trans G6.out (grown_drewN _ m7 none))
  generalize w11.drewN m7 = w12 at *
  have H7 := hid_mk (show SB w12 p 28 s (.slice xa s.es.length xc) ∧ EntsR w12 (.slice xa s.es.length xc) s.es ∧ RecR w12 va R ∧ w.grownBy w12 none from ⟨H.out.1.kept H6.out (by simp), H.out.2.2.1.kept H6.out, H.out.2.2.2.2.1.kept H6.out, grown_trans H.out.2.2.2.2.2.2 H6.out⟩)
  clear HCL G0 G1 G2 G3 G4 G5 G6 H6 H HM
  obtain ⟨c0, c1, c2, c3, c4, c5, c6⟩ := H7.out.1.cells
  go_wp2_with fail
  clear c0 c1 c2 c3 c4 c5 c6
  rw [← HVV.out s.b s.t (.slice xa s.es.length xc)]
  refine (match_any _ _ _ s.es _ _ _ s.es w12 H7.out.2.1 H7.out.2.1 (by have := HB.out.2.2.2.2.1; omega) (by have := HB.out.2.2.2.2.1; omega) HB.out.2.2.1 HB.out.2.2.1).mono ?_
  rintro e w13 ⟨rfl, hg⟩
  rw [match_self]
  have H8 := hid_mk (show w12.grownBy w13 none from hg)
  clear hg
  rw [HVV.out]
  obtain ⟨c0, c1, c2, c3, c4, c5, c6⟩ := (H7.out.1.kept H8.out (by simp)).cells
  go_wp2_with fail
  clear c0 c1 c2 c3 c4 c5 c6
  rw [← HSV.out s (.slice xa s.es.length xc)]
  refine (agree_any s s _ _ w13 (H7.out.2.1.kept H8.out) (H7.out.2.1.kept H8.out) (by have := HB.out.2.2.2.2.1; omega) (by have := HB.out.2.2.2.2.1; omega) HB.out.2.2.1 HB.out.2.2.1).mono ?_
  rintro e w14 ⟨rfl, hg⟩
  rw [show s.agree s = 0 from agree_self _ _ _]
  have H9 := hid_mk (show w12.grownBy w14 none from grown_trans H8.out hg)
  clear hg H8
  rw [HSV.out]
  obtain ⟨c0, c1, c2, c3, c4, c5, c6⟩ := (H7.out.1.kept H9.out (by simp)).cells
  go_wp2_with fail
  refine (same_recs va va R R F F w14 (H7.out.2.2.1.kept H9.out) (H7.out.2.2.1.kept H9.out) HB.out.2.2.2.2.2.2.1 HB.out.2.2.2.2.2.2.1 HB.out.1 HB.out.1).mono ?_
  rintro e w15 ⟨rfl, hg⟩
  rw [sameR_self]
  have H10 := hid_mk (show w12.grownBy w15 none from grown_trans H9.out hg)
  clear hg H9 c0 c1 c2 c3 c4 c5 c6
  obtain ⟨c0, c1, c2, c3, c4, c5, c6⟩ := (H7.out.1.kept H10.out (by simp)).cells
  have HSN := hid_mk (show SeensR (w15.alloc (.cells #[.int .i64 s.id, .int .i64 s.term, .int .i64 s.com, .bool s.lead, .int .i64 s.b, .int .i64 s.t, .slice xa s.es.length xc, .int .i64 s.id, .int .i64 s.term, .int .i64 s.com, .bool s.lead, .int .i64 s.b, .int .i64 s.t, .slice xa s.es.length xc] 28)) (.slice (some ⟨w15.heap.size, 0, none⟩) 2 2) [(s, .slice xa s.es.length xc), (s, .slice xa s.es.length xc)] ∧ w.grownBy (w15.alloc (.cells #[.int .i64 s.id, .int .i64 s.term, .int .i64 s.com, .bool s.lead, .int .i64 s.b, .int .i64 s.t, .slice xa s.es.length xc, .int .i64 s.id, .int .i64 s.term, .int .i64 s.com, .bool s.lead, .int .i64 s.b, .int .i64 s.t, .slice xa s.es.length xc] 28)) none from by
    have hb : Blk (w15.alloc (.cells #[.int .i64 s.id, .int .i64 s.term, .int .i64 s.com, .bool s.lead, .int .i64 s.b, .int .i64 s.t, .slice xa s.es.length xc, .int .i64 s.id, .int .i64 s.term, .int .i64 s.com, .bool s.lead, .int .i64 s.b, .int .i64 s.t, .slice xa s.es.length xc] 28)) w15.heap.size #[.int .i64 s.id, .int .i64 s.term, .int .i64 s.com, .bool s.lead, .int .i64 s.b, .int .i64 s.t, .slice xa s.es.length xc, .int .i64 s.id, .int .i64 s.term, .int .i64 s.com, .bool s.lead, .int .i64 s.b, .int .i64 s.t, .slice xa s.es.length xc] 28 := heap_alloc_new _ _
    refine ⟨.inr ⟨_, 0, 2, rfl, Nat.le_refl 2, fun i p hp => ?_⟩, grown_trans (grown_trans H7.out.2.2.2 H10.out) (World.grownBy_alloc _ _ none)⟩
    match i, hp with
    | 0, hp => cases hp; exact ⟨hb.cell 0, hb.cell 1, hb.cell 2, hb.cell 3, hb.cell 4, hb.cell 5, hb.cell 6⟩
    | 1, hp => cases hp; exact ⟨hb.cell 7, hb.cell 8, hb.cell 9, hb.cell 10, hb.cell 11, hb.cell 12, hb.cell 13⟩)
  go_wp2_with fail
  clear c0 c1 c2 c3 c4 c5 c6
  refine (leaders_any _ [(s, .slice xa s.es.length xc), (s, .slice xa s.es.length xc)] _ HSN.out.1 (by
    intro p hp
    simp only [List.mem_cons, List.not_mem_nil, or_false] at hp
    rcases hp with rfl | rfl
    · exact ⟨HB.out.2.2.2.2.2.2.2.2, _, _, _, rfl⟩
    · exact ⟨HB.out.2.2.2.2.2.2.2.2, _, _, _, rfl⟩) (by simp)).mono ?_
  rintro e w16 ⟨z, rfl, hz, hg⟩
  obtain rfl := lead_ss hz
  have H12 := hid_mk (show w.grownBy w16 none from grown_trans HSN.out.2 hg)
  clear hz hg
  go_wp2_with fail
  refine (knows_any w16).mono ?_
  rintro e w17 ⟨rfl, hg⟩
  have H13 := hid_mk (show w.grownBy w17 none from grown_trans H12.out hg)
  clear hg
  go_wp2_with fail
  go_ret
  exact ⟨rfl, H13.out⟩
end Go.Proofs.Ytcijjepleedecaa.W
