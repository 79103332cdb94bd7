/- watch: the law's Own. -/
import Derived.Test.YtcijjepleedecaaWaE
namespace Go.Proofs.Ytcijjepleedecaa.W
open Go.RowKit Go.Maps
set_option linter.unusedVariables false
set_option linter.unusedSimpArgs false
set_option maxRecDepth 100000
attribute [local go_sem] Oper.semAt_some


theorem seen_load (w : World) (b : Nat) (c0 c1 c2 c3 c4 c5 c6 : Value) (h0 : w.cell? ⟨b, 0, none⟩ = some c0) (h1 : w.cell? ⟨b, 1, none⟩ = some c1) (h2 : w.cell? ⟨b, 2, none⟩ = some c2) (h3 : w.cell? ⟨b, 3, none⟩ = some c3) (h4 : w.cell? ⟨b, 4, none⟩ = some c4) (h5 : w.cell? ⟨b, 5, none⟩ = some c5) (h6 : w.cell? ⟨b, 6, none⟩ = some c6) : (loadVar 28 ⟨b, 0, none⟩).run Try.prog w = .ok (.agg #[c0, c1, c2, c3, c4, c5, c6]) w := by
  simp [go_sem, h0, h1, h2, h3, h4, h5, h6]
theorem ret_seen {fn : Func} {p : Tmp} (h : fn.results = #[.cell p 28]) (tmps : Array Value) (w : World) (g : Nat) (s : Sn) (lv : Value) (hp : tmps.getD p undef = .pointer (some ⟨g, 0, none⟩)) (hb : SB w g 28 s lv) : (results fn tmps).run Try.prog w = .ok (seenV s lv) w := by
  have ha : (asAddr (.pointer (some ⟨g, 0, none⟩))).run Try.prog w = .ok ⟨g, 0, none⟩ w := by simp [asAddr]
  obtain ⟨c0, c1, c2, c3, c4, c5, c6⟩ := hb.cells
  rw [results_cell1 h, hp, ha]
  simp only [Result.andThen]
  rw [seen_load w g _ _ _ _ _ _ _ c0 c1 c2 c3 c4 c5 c6]
  rfl
def put7 (W : World) (g : Nat) (s : Sn) (lv : Value) : World := ((((((W.setCell ⟨g, 0, none⟩ (.int .i64 s.id)).setCell ⟨g, 1, none⟩ (.int .i64 s.term)).setCell ⟨g, 2, none⟩ (.int .i64 s.com)).setCell ⟨g, 3, none⟩ (.bool s.lead)).setCell ⟨g, 4, none⟩ (.int .i64 s.b)).setCell ⟨g, 5, none⟩ (.int .i64 s.t)).setCell ⟨g, 6, none⟩ lv
theorem put7_is {W : World} {g : Nat} {a b c d e f h : Value} {t : TypeId} (hb : Blk W g #[a, b, c, d, e, f, h] t) (s : Sn) (lv : Value) : SB (put7 W g s lv) g t s lv ∧ W.grownBy (put7 W g s lv) (some g) := by
  have h' : W.heap[g]? = _ := hb
  unfold put7
  refine ⟨?_, grown_trans (grown_trans (grown_trans (grown_trans (grown_trans (grown_trans (grown_setCell _ _ _ _) (grown_setCell _ _ _ _)) (grown_setCell _ _ _ _)) (grown_setCell _ _ _ _)) (grown_setCell _ _ _ _)) (grown_setCell _ _ _ _)) (grown_setCell _ _ _ _)⟩
  unfold SB Blk seenC
  simp [World.setCell, Array.getElem?_modify, h']

set_option maxHeartbeats 4000000 in
theorem own_eo (s : Sn) (lv : Value) (w : World) (h : EntsR w lv s.es) (hlen : s.es.length * 48 ≤ 140737488355328) : Calls Try.prog 9 #[seenV s lv] w fun e w' => ∃ a' c' ps, e = .returned (seenV s (.slice a' s.es.length c')) ∧ EO w w' (.slice a' s.es.length c') ps ∧ ps.map (·.1) = s.es := by
  obtain ⟨a, c, rfl⟩ := h.len
  have HV : Hid (viewV s.b s.t (.slice a s.es.length c) = .agg #[.int .i64 s.b, .int .i64 s.t, .slice a s.es.length c]) := hid_mk rfl
  have HE := hid_mk (And.intro h hlen)
  clear h hlen
  have HA := hid_mk (show SB ((w.alloc (.cells #[.int .i64 s.id, .int .i64 s.term, .int .i64 s.com, .bool s.lead, .int .i64 s.b, .int .i64 s.t, .slice a s.es.length c] 32)).alloc (.cells #[.int .i64 0, .int .i64 0, .int .i64 0, .bool false, .int .i64 0, .int .i64 0, .slice none 0 0] 28)) w.heap.size 32 s (.slice a s.es.length c) ∧ Blk ((w.alloc (.cells #[.int .i64 s.id, .int .i64 s.term, .int .i64 s.com, .bool s.lead, .int .i64 s.b, .int .i64 s.t, .slice a s.es.length c] 32)).alloc (.cells #[.int .i64 0, .int .i64 0, .int .i64 0, .bool false, .int .i64 0, .int .i64 0, .slice none 0 0] 28)) (w.heap.size + 1) #[.int .i64 0, .int .i64 0, .int .i64 0, .bool false, .int .i64 0, .int .i64 0, .slice none 0 0] 28 ∧ w.grownBy ((w.alloc (.cells #[.int .i64 s.id, .int .i64 s.term, .int .i64 s.com, .bool s.lead, .int .i64 s.b, .int .i64 s.t, .slice a s.es.length c] 32)).alloc (.cells #[.int .i64 0, .int .i64 0, .int .i64 0, .bool false, .int .i64 0, .int .i64 0, .slice none 0 0] 28)) none from by
    have h1 := SB.new w 32 s (.slice a s.es.length c)
    have h2 := heap_alloc_new (w.alloc (.cells #[.int .i64 s.id, .int .i64 s.term, .int .i64 s.com, .bool s.lead, .int .i64 s.b, .int .i64 s.t, .slice a s.es.length c] 32)) (.cells #[.int .i64 0, .int .i64 0, .int .i64 0, .bool false, .int .i64 0, .int .i64 0, .slice none 0 0] 28)
    rw [World.size_alloc] at h2
    exact ⟨h1.kept (World.grownBy_alloc _ _ none) (by simp), h2, grown_trans (World.grownBy_alloc _ _ none) (World.grownBy_alloc _ _ none)⟩)
  have HSV : Hid (∀ lv, seenV s lv = .agg #[.int .i64 s.id, .int .i64 s.term, .int .i64 s.com, .bool s.lead, .int .i64 s.b, .int .i64 s.t, lv]) := hid_mk fun _ => rfl
  rw [HSV.out]
  go_enter Try.func9, Try.ntmps9
  go_upto_region 1 with fail
  generalize (w.alloc (.cells #[.int .i64 s.id, .int .i64 s.term, .int .i64 s.com, .bool s.lead, .int .i64 s.b, .int .i64 s.t, .slice a s.es.length c] 32)).alloc (.cells #[.int .i64 0, .int .i64 0, .int .i64 0, .bool false, .int .i64 0, .int .i64 0, .slice none 0 0] 28) = w1 at *
  obtain ⟨q, hq⟩ : ∃ q, q = w.heap.size := ⟨_, rfl⟩
  obtain ⟨r, hr⟩ : ∃ r, r = w.heap.size + 1 := ⟨_, rfl⟩
  rw [← hr, ← hq] at HA ⊢
  have HQ := hid_mk (show w.heap.size ≤ r ∧ q ≠ r by omega)
  clear hq hr
  have HCL : ∀ W, w1.grownBy W (some r) → W.cell? ⟨q, 0, none⟩ = some (.int .i64 s.id) ∧ W.cell? ⟨q, 1, none⟩ = some (.int .i64 s.term) ∧ W.cell? ⟨q, 2, none⟩ = some (.int .i64 s.com) ∧ W.cell? ⟨q, 3, none⟩ = some (.bool s.lead) ∧ W.cell? ⟨q, 4, none⟩ = some (.int .i64 s.b) ∧ W.cell? ⟨q, 5, none⟩ = some (.int .i64 s.t) ∧ W.cell? ⟨q, 6, none⟩ = some (.slice a s.es.length c) := fun W hW => (HA.out.1.kept hW (by have := HQ.out; simp; omega)).cells
  refine wp_region_mix [(0, true), (1, true), (2, true), (3, true), (4, true), (5, true), (6, true), (7, true), (8, true), (9, true), (10, false), (11, true), (12, false)] (at0 w1 (fun W => w1.grownBy W (some r))) (by kernel_rfl) (by kernel_rfl) rfl (by kernel_rfl) (shut_at0 (fun m => grown_drewN _ m _)) ⟨1, rfl⟩ ?_
  iterate 10 (refine mix_rd1 rfl rfl (fun K hK => ?_); apply Exists.intro; refine ⟨fun W hW => ?_, ?_⟩; (obtain ⟨c0, c1, c2, c3, c4, c5, c6⟩ := HCL W hW; go_simp; rfl); (go_simp; refine hK _ _ ?_; clear hK K))
  refine mix_call rfl rfl 18 #[viewV s.b s.t (.slice a s.es.length c)] (fun W => by rw [HV.out]; go_simp) ?_
  rintro W ⟨mA, rfl⟩
  refine (view_any s.b s.t _ s.es (w1.drewN mA) (HE.out.1.kept (grown_trans HA.out.2.2 (grown_drewN _ mA none))) HE.out.2).mono ?_
  rintro e w2 ⟨lv', ps, rfl, heo, hmap⟩
  have hrd := heo.reads
  rw [hmap] at hrd
  obtain ⟨a2, c2, rfl⟩ := hrd.len
  have H2 := hid_mk (show EntsR w2 (.slice a2 s.es.length c2) s.es ∧ w1.grownBy w2 none from ⟨hrd, grown_trans (grown_drewN _ mA none) heo.gr⟩)
  have H2E := hid_mk (show EO w w2 (.slice a2 s.es.length c2) ps ∧ ps.map (·.1) = s.es from ⟨heo.base (grown_trans HA.out.2.2 (grown_drewN _ mA none)), hmap⟩)
  clear hrd heo hmap
  have HV2 : Hid (viewV s.b s.t (.slice a2 s.es.length c2) = .agg #[.int .i64 s.b, .int .i64 s.t, .slice a2 s.es.length c2]) := hid_mk rfl
  rw [HV2.out]
  refine ⟨_, rfl, at0 w2 (fun W => w1.grownBy W (some r)), ⟨0, rfl⟩, shut_at0 (fun m => grown_trans (grown_any H2.out.2 _) (grown_drewN _ m _)), fun _ h => h, ?_⟩
  (refine mix_rd1 rfl rfl (fun K hK => ?_); apply Exists.intro; refine ⟨fun W hW => ?_, ?_⟩; (go_simp; rfl); (go_simp; refine hK _ _ ?_; clear hK K))
  refine mix_skip rfl rfl ?_
  rintro W ⟨mE, rfl⟩
  have hvE := HA.out.2.1.kept (grown_trans H2.out.2 (grown_drewN w2 mE none)) (by simp)
  have z0 := hvE.frozen 0
  have z1 := hvE.frozen 1
  have z2 := hvE.frozen 2
  have z3 := hvE.frozen 3
  have z4 := hvE.frozen 4
  have z5 := hvE.frozen 5
  have z6 := hvE.frozen 6
  have e0 : (w2.drewN mE).cell? ⟨r, 0, none⟩ = some (.int .i64 0) := hvE.cell 0
  have e1 : (w2.drewN mE).cell? ⟨r, 1, none⟩ = some (.int .i64 0) := hvE.cell 1
  have e2 : (w2.drewN mE).cell? ⟨r, 2, none⟩ = some (.int .i64 0) := hvE.cell 2
  have e3 : (w2.drewN mE).cell? ⟨r, 3, none⟩ = some (.bool false) := hvE.cell 3
  have e4 : (w2.drewN mE).cell? ⟨r, 4, none⟩ = some (.int .i64 0) := hvE.cell 4
  have e5 : (w2.drewN mE).cell? ⟨r, 5, none⟩ = some (.int .i64 0) := hvE.cell 5
  have e6 : (w2.drewN mE).cell? ⟨r, 6, none⟩ = some (.slice none 0 0) := hvE.cell 6
  obtain ⟨wE, hwE⟩ : ∃ wE, wE = put7 (w2.drewN mE) r s (.slice a2 s.es.length c2) := ⟨_, rfl⟩
  have hpt := put7_is hvE s (.slice a2 s.es.length c2)
  rw [← hwE] at hpt
  have HPT := hid_mk hpt
  have heE := (H2E.out.1.kept (grown_drewN w2 mE none)).but hvE (by decide) (by decide) HQ.out.1 HPT.out.2
  have HREE := hid_mk heE
  clear hvE hpt heE
  refine ⟨wE, by rw [hwE]; unfold put7; go_simp, at0 wE (fun W => w1.grownBy W (some r)), ⟨0, rfl⟩, shut_at0 (fun m => grown_trans (grown_any (grown_trans H2.out.2 (grown_drewN w2 mE none)) _) (grown_trans HPT.out.2 (grown_drewN _ m _))), fun _ h => h, ?_⟩
  clear e0 e1 e2 e3 e4 e5 e6 z0 z1 z2 z3 z4 z5 z6 hwE
  have gE : w.grownBy wE none := grown_new (grown_trans HA.out.2.2 (grown_trans H2.out.2 (grown_drewN w2 mE none))) HPT.out.2 HQ.out.1
  have HEND := hid_mk (And.intro HPT.out.1 gE)
  clear gE
  refine mix_nil ?_
  rintro W ⟨mG, rfl⟩
  go_wp2_with fail
  refine bodyPost_ret (ret_seen rfl _ _ _ _ _ rfl (HEND.out.1.kept (grown_drewN wE mG none) (by simp))) rfl ?_
  exact ⟨a2, c2, ps, rfl, HREE.out.kept (grown_drewN wE mG none), H2E.out.2⟩
theorem own_any (s : Sn) (lv : Value) (w : World) (h : EntsR w lv s.es) (hlen : s.es.length * 48 ≤ 140737488355328) : Calls Try.prog 9 #[seenV s lv] w fun e w' => ∃ lv', e = .returned (seenV s lv') ∧ EntsR w' lv' s.es ∧ w.grownBy w' none :=
  (own_eo s lv w h hlen).mono fun e w' ⟨a', c', ps, he, ho, hm⟩ => ⟨_, he, by have := ho.reads; rw [hm] at this; exact this, ho.gr⟩
end Go.Proofs.Ytcijjepleedecaa.W
