/- EntriesLooks. -/
import Derived.Test.YtckblgpalbedhaaErE
namespace Go.Proofs.Ytckblgpalbedhaa.W
open Go.RowKit Go.Maps
set_option linter.unusedVariables false
set_option linter.unusedSimpArgs false
set_option maxRecDepth 100000
attribute [local go_sem] Oper.semAt_some

set_option maxHeartbeats 16000000 in
theorem looks_any (b t : Int) (lv : Value) (es : List Ent) (i most term : Int) (w : World) (h : EntsR w lv es) (hn : es.length * 48 ≤ 140737488355328) (hb : I64 b) (hi : I64 i) (hm : I64 most) :
    Calls Try.prog 3 #[viewV b t lv, .int .i64 i, .int .i64 most, .int .i64 term] w fun e w' => e = .returned (.bool true) ∧ w.grownBy w' none := by
  obtain ⟨a, c, rfl⟩ := h.len
  have HE := hid_mk (And.intro h (And.intro hb (And.intro hi hm)))
  clear h hb hi hm
  have hV : viewV b t (.slice a es.length c) = .agg #[.int .i64 b, .int .i64 t, .slice a es.length c] := rfl
  have HV := hid_mk hV
  rw [hV]
  clear hV
  have HA := hid_mk (And.intro (RB.new w b t (.slice a es.length c)) (World.grownBy_alloc w (.cells #[.int .i64 b, .int .i64 t, .slice a es.length c] 24) none))
  go_enter Try.func3, Try.ntmps3
  go_upto_region 1 with fail
  generalize w.alloc (.cells #[.int .i64 b, .int .i64 t, .slice a es.length c] 24) = w1 at *
  obtain ⟨v0, v1, v2⟩ := HA.out.1.cells
  go_wp2_with fail
  rw [← HV.out]
  refine (view_any b t _ es w1 (HE.out.1.kept HA.out.2) hn).mono ?_
  rintro e w2 ⟨lv', ps, rfl, heo, hmap⟩
  rw [HV.out]
  obtain ⟨va, vc, hv⟩ := row_shape heo.row
  subst hv
  have hpl : ps.length = es.length := by have := congrArg List.length hmap; simpa using this
  have hrd := heo.reads
  rw [hmap, hpl] at hrd
  rw [hpl]
  have hVn : viewV b t (.slice va es.length vc) = .agg #[.int .i64 b, .int .i64 t, .slice va es.length vc] := rfl
  have HVn := hid_mk hVn
  rw [hVn]
  clear hVn
  have H3 := hid_mk (show EntsR (w2.alloc (.cells #[.int .i64 b, .int .i64 t, .slice va es.length vc] 25)) (.slice va es.length vc) es ∧ VB (w2.alloc (.cells #[.int .i64 b, .int .i64 t, .slice va es.length vc] 25)) w2.heap.size b t (.slice va es.length vc) ∧ RB (w2.alloc (.cells #[.int .i64 b, .int .i64 t, .slice va es.length vc] 25)) w.heap.size b t (.slice a es.length c) ∧ w.grownBy (w2.alloc (.cells #[.int .i64 b, .int .i64 t, .slice va es.length vc] 25)) none from
    ⟨hrd.kept (World.grownBy_alloc _ _ none), VB.new _ _ _ _, HA.out.1.kept (grown_trans heo.gr (World.grownBy_alloc _ _ none)) (by simp), grown_trans (grown_trans HA.out.2 heo.gr) (World.grownBy_alloc _ _ none)⟩)
  clear heo hmap hpl hrd v0 v1 v2 HA
  go_upto_region 2 with fail
  generalize w2.alloc (.cells #[.int .i64 b, .int .i64 t, .slice va es.length vc] 25) = w3 at *
  obtain ⟨p9, hp9⟩ : ∃ p9, p9 = w2.heap.size := ⟨_, rfl⟩
  rw [← hp9] at H3 ⊢
  clear hp9
  have HCL : ∀ W, w3.grownBy W none → W.cell? ⟨p9, 0, none⟩ = some (.int .i64 b) ∧ W.cell? ⟨p9, 1, none⟩ = some (.int .i64 t) ∧ W.cell? ⟨p9, 2, none⟩ = some (.slice va es.length vc) ∧ W.cell? ⟨w.heap.size, 0, none⟩ = some (.int .i64 b) ∧ W.cell? ⟨w.heap.size, 1, none⟩ = some (.int .i64 t) ∧ W.cell? ⟨w.heap.size, 2, none⟩ = some (.slice a es.length c) := fun W hW => by
    obtain ⟨x0, x1, x2⟩ := (H3.out.2.1.kept hW (by simp)).cells
    exact ⟨x0, x1, x2, (H3.out.2.2.1.kept hW (by simp)).cells⟩
  have hn' : es.length ≤ 10000000000000 := by omega
  obtain ⟨d0, d1, d2, d3, d4, d5⟩ := HCL w3 (grown_refl _ _)
  go_wp2_with fail
  rw [← HVn.out]
  refine (last_any b t _ es w3 H3.out.1 hn' HE.out.2.1).mono ?_
  rintro e w4 ⟨rfl, hg⟩
  rw [HVn.out]
  obtain ⟨L1, hL1⟩ : ∃ L1, L1 = (if rightV b t es = true then endI b es else 0) := ⟨_, rfl⟩
  obtain ⟨L2, hL2⟩ : ∃ L2, L2 = (if rightV b t es = true then endT t es else 0) := ⟨_, rfl⟩
  rw [← hL1, ← hL2]
  have HL := hid_mk (And.intro hL1 hL2)
  clear hL1 hL2
  have G4 := hid_mk hg
  clear hg d0 d1 d2 d3 d4 d5
  obtain ⟨d0, d1, d2, d3, d4, d5⟩ := HCL w4 G4.out
  go_wp2_with fail
  rw [← HV.out]
  refine (rLast_any b t _ es w4 (HE.out.1.kept (grown_trans H3.out.2.2.2 G4.out)) hn').mono ?_
  rintro e w5 ⟨rfl, hg⟩
  rw [HV.out, ← HL.out.1, ← HL.out.2]
  have G5 := hid_mk (grown_trans G4.out hg)
  clear hg d0 d1 d2 d3 d4 d5 HL G4
  obtain ⟨d0, d1, d2, d3, d4, d5⟩ := HCL w5 G5.out
  go_wp2_with fail
  rw [← HVn.out]
  refine (termOf_any b t _ es i w5 (H3.out.1.kept G5.out) hn' HE.out.2.1).mono ?_
  rintro e w6 ⟨rfl, hg⟩
  rw [HVn.out]
  obtain ⟨T1, T2, hT⟩ : ∃ T1 T2, termR b t es i = (T1, T2) := ⟨_, _, rfl⟩
  rw [hT]
  simp only
  have HT := hid_mk hT
  have G6 := hid_mk (grown_trans G5.out hg)
  clear hg d0 d1 d2 d3 d4 d5 hT G5
  obtain ⟨d0, d1, d2, d3, d4, d5⟩ := HCL w6 G6.out
  go_wp2_with fail
  rw [← HV.out]
  refine (rTermOf_any b t _ es i w6 (HE.out.1.kept (grown_trans H3.out.2.2.2 G6.out)) hn').mono ?_
  rintro e w7 ⟨rfl, hg⟩
  rw [HV.out, HT.out]
  simp only
  have G7 := hid_mk (grown_trans G6.out hg)
  clear hg d0 d1 d2 d3 d4 d5 HT G6
  obtain ⟨d0, d1, d2, d3, d4, d5⟩ := HCL w7 G7.out
  go_wp2_with fail
  rw [← HVn.out]
  refine (From_any b t _ es i most w7 (H3.out.1.kept G7.out) hn' HE.out.2.1 HE.out.2.2.1 HE.out.2.2.2).mono ?_
  rintro e w8 ⟨fv, qs, rfl, heo, hmap⟩
  rw [HVn.out]
  obtain ⟨la, lc, hv⟩ := row_shape heo.row
  subst hv
  obtain ⟨ln, hln⟩ : ∃ ln, ln = qs.length := ⟨_, rfl⟩
  rw [← hln] at heo ⊢
  have hrd8 := heo.reads
  rw [hmap] at hrd8
  have H8 := hid_mk (show EO w7 w8 (.slice la ln lc) qs ∧ EntsR w8 (.slice la ln lc) (fromL b t es i most) ∧ ln = qs.length ∧ w3.grownBy w8 none from ⟨heo, hrd8, hln, grown_trans G7.out heo.gr⟩)
  have hlnb : ln ≤ es.length := by
    have := congrArg List.length hmap
    rw [List.length_map] at this
    rw [hln, this]
    unfold fromL
    split
    · simp; omega
    · simp
  clear heo hmap hln hrd8 d0 d1 d2 d3 d4 d5
  go_upto_region 7 with fail
  have HCL8 : ∀ W, w8.grownBy W none → W.cell? ⟨p9, 0, none⟩ = some (.int .i64 b) ∧ W.cell? ⟨p9, 1, none⟩ = some (.int .i64 t) ∧ W.cell? ⟨p9, 2, none⟩ = some (.slice va es.length vc) ∧ W.cell? ⟨w.heap.size, 0, none⟩ = some (.int .i64 b) ∧ W.cell? ⟨w.heap.size, 1, none⟩ = some (.int .i64 t) ∧ W.cell? ⟨w.heap.size, 2, none⟩ = some (.slice a es.length c) := fun W hW => HCL W (grown_trans H8.out.2.2.2 hW)
  obtain ⟨R, hR⟩ : ∃ R, R = rightV b t es := ⟨_, rfl⟩
  have HR := hid_mk hR
  clear hR
  obtain ⟨F1, hF1⟩ : ∃ F1, F1 = (if rightV b t es = true then firstI es term else 0) := ⟨_, rfl⟩
  have HF1 := hid_mk hF1
  clear hF1
  have Gw8 := hid_mk (grown_refl w8 (none : Option Nat))
  refine wp_region_mix [(0, true), (2, true), (1, false), (3, false), (4, true), (5, true), (6, true), (7, true), (8, true), (9, true), (10, true), (11, true), (12, true), (13, true), (14, true), (15, true), (16, true), (17, true), (18, true), (19, true), (20, true), (21, true), (23, true), (22, false), (24, true), (25, true), (26, true), (27, true), (28, true), (29, true), (30, true), (31, false), (32, false), (33, true), (34, true), (35, true), (36, true), (38, true), (39, true), (37, false), (40, false), (41, true), (42, true), (43, true)] (at0 w8 (fun W => w8.grownBy W none)) (by kernel_rfl) (by kernel_rfl) rfl (by kernel_rfl) (shut_at0 (fun m => grown_drewN _ m none)) ⟨1, rfl⟩ ?_
  repeat (refine mix_rd1 rfl rfl (fun K hK => ?_); apply Exists.intro; refine ⟨fun W hW => ?_, ?_⟩; (obtain ⟨d0, d1, d2, d3, d4, d5⟩ := HCL8 W hW; go_simp; rfl); (go_simp; refine hK _ _ ?_; clear hK K))
  refine mix_call rfl rfl 14 #[viewV b t (.slice va es.length vc)] (fun W => by rw [HVn.out]; go_simp) ?_
  rintro W ⟨mwA, rfl⟩
  have gwA := (show w8.grownBy (w8.drewN mwA) none from grown_trans Gw8.out (grown_drewN _ mwA none))
  refine (rightV_any b t _ es (w8.drewN mwA) (H3.out.1.kept (grown_trans H8.out.2.2.2 gwA)) hn' HE.out.2.1).mono ?_
  rintro e wA ⟨rfl, hg⟩
  have GwA := hid_mk (show w8.grownBy wA none from grown_trans gwA hg)
  rw [← HR.out]
  clear hg gwA
  refine ⟨_, rfl, at0 wA (fun W => w8.grownBy W none), ⟨0, rfl⟩, shut_at0 (all_kept GwA.out), fun _ h => h, ?_⟩
  refine mix_call rfl rfl 15 #[viewV b t (.slice a es.length c)] (fun W => by rw [HV.out]; go_simp) ?_
  rintro W ⟨mwB, rfl⟩
  have gwB := (show w8.grownBy (wA.drewN mwB) none from grown_trans GwA.out (grown_drewN _ mwB none))
  refine (rrightV_any b t _ es (wA.drewN mwB) (HE.out.1.kept (grown_trans H3.out.2.2.2 (grown_trans H8.out.2.2.2 gwB))) hn').mono ?_
  rintro e wB ⟨rfl, hg⟩
  have GwB := hid_mk (show w8.grownBy wB none from grown_trans gwB hg)
  rw [← HR.out]
  clear hg gwB
  refine ⟨_, rfl, at0 wB (fun W => w8.grownBy W none), ⟨0, rfl⟩, shut_at0 (all_kept GwB.out), fun _ h => h, ?_⟩
  repeat (refine mix_rd1 rfl rfl (fun K hK => ?_); apply Exists.intro; refine ⟨fun W hW => ?_, ?_⟩; (obtain ⟨d0, d1, d2, d3, d4, d5⟩ := HCL8 W hW; go_simp; rfl); (go_simp; refine hK _ _ ?_; clear hK K))
  refine mix_call rfl rfl 16 #[.int .i64 T2] (fun W => by go_simp) ?_
  rintro W ⟨mwC, rfl⟩
  have gwC := (show w8.grownBy (wB.drewN mwC) none from grown_trans GwB.out (grown_drewN _ mwC none))
  refine (numE_any T2 (wB.drewN mwC)).mono ?_
  rintro e wC ⟨rfl, hg⟩
  have GwC := hid_mk (show w8.grownBy wC none from grown_trans gwC hg)
  clear hg gwC
  refine ⟨_, rfl, at0 wC (fun W => w8.grownBy W none), ⟨0, rfl⟩, shut_at0 (all_kept GwC.out), fun _ h => h, ?_⟩
  repeat (refine mix_rd1 rfl rfl (fun K hK => ?_); apply Exists.intro; refine ⟨fun W hW => ?_, ?_⟩; (obtain ⟨d0, d1, d2, d3, d4, d5⟩ := HCL8 W hW; go_simp; rfl); (go_simp; refine hK _ _ ?_; clear hK K))
  refine mix_call rfl rfl 18 #[viewV b t (.slice a es.length c), .int .i64 i, .int .i64 most] (fun W => by rw [HV.out]; go_simp) ?_
  rintro W ⟨mwD, rfl⟩
  have gwD := (show w8.grownBy (wC.drewN mwD) none from grown_trans GwC.out (grown_drewN _ mwD none))
  refine (rFrom_any b t _ es i most (wC.drewN mwD) (HE.out.1.kept (grown_trans H3.out.2.2.2 (grown_trans H8.out.2.2.2 gwD))) hn HE.out.2.2.1 HE.out.2.2.2).mono ?_
  rintro e wD ⟨rv, rfl, hrf, hg⟩
  have GwD := hid_mk (show w8.grownBy wD none from grown_trans gwD hg)
  obtain ⟨ra, rc, hrv⟩ := hrf.len
  subst hrv
  have HRF := hid_mk hrf
  clear hrf
  clear hg gwD
  refine ⟨_, rfl, at0 wD (fun W => w8.grownBy W none), ⟨0, rfl⟩, shut_at0 (all_kept GwD.out), fun _ h => h, ?_⟩
  refine mix_call rfl rfl 17 #[.slice la ln lc, .slice ra (fromL b t es i most).length rc] (fun W => by go_simp) ?_
  rintro W ⟨mwE, rfl⟩
  have gwE := (show w8.grownBy (wD.drewN mwE) none from grown_trans GwD.out (grown_drewN _ mwE none))
  refine (entriesEq_any _ _ _ (wD.drewN mwE) (H8.out.2.1.kept gwE) (HRF.out.kept (grown_drewN _ mwE none)) (by have hh := H8.out.2.1.len; obtain ⟨_, _, hh⟩ := hh; injection hh with _ hh _; omega)).mono ?_
  rintro e wE ⟨rfl, hg⟩
  have GwE := hid_mk (show w8.grownBy wE none from grown_trans gwE hg)
  clear hg gwE
  refine ⟨_, rfl, at0 wE (fun W => w8.grownBy W none), ⟨0, rfl⟩, shut_at0 (all_kept GwE.out), fun _ h => h, ?_⟩
  repeat (refine mix_rd1 rfl rfl (fun K hK => ?_); apply Exists.intro; refine ⟨fun W hW => ?_, ?_⟩; (obtain ⟨d0, d1, d2, d3, d4, d5⟩ := HCL8 W hW; go_simp; rfl); (go_simp; refine hK _ _ ?_; clear hK K))
  refine mix_call rfl rfl 19 #[viewV b t (.slice va es.length vc), .int .i64 term] (fun W => by rw [HVn.out]; go_simp) ?_
  rintro W ⟨mwF, rfl⟩
  have gwF := (show w8.grownBy (wE.drewN mwF) none from grown_trans GwE.out (grown_drewN _ mwF none))
  refine (first_any b t _ es term (wE.drewN mwF) (H3.out.1.kept (grown_trans H8.out.2.2.2 gwF)) hn' HE.out.2.1).mono ?_
  rintro e wF ⟨rfl, hg⟩
  have GwF := hid_mk (show w8.grownBy wF none from grown_trans gwF hg)
  rw [← HF1.out]
  clear hg gwF
  refine ⟨_, rfl, at0 wF (fun W => w8.grownBy W none), ⟨0, rfl⟩, shut_at0 (all_kept GwF.out), fun _ h => h, ?_⟩
  refine mix_call rfl rfl 20 #[viewV b t (.slice a es.length c), .int .i64 term] (fun W => by rw [HV.out]; go_simp) ?_
  rintro W ⟨mwG, rfl⟩
  have gwG := (show w8.grownBy (wF.drewN mwG) none from grown_trans GwF.out (grown_drewN _ mwG none))
  refine (rFirst_any b t _ es term (wF.drewN mwG) (HE.out.1.kept (grown_trans H3.out.2.2.2 (grown_trans H8.out.2.2.2 gwG))) hn').mono ?_
  rintro e wG ⟨rfl, hg⟩
  have GwG := hid_mk (show w8.grownBy wG none from grown_trans gwG hg)
  rw [← HF1.out]
  clear hg gwG
  refine ⟨_, rfl, at0 wG (fun W => w8.grownBy W none), ⟨0, rfl⟩, shut_at0 (all_kept GwG.out), fun _ h => h, ?_⟩
  repeat (refine mix_rd1 rfl rfl (fun K hK => ?_); apply Exists.intro; refine ⟨fun W hW => ?_, ?_⟩; (obtain ⟨d0, d1, d2, d3, d4, d5⟩ := HCL8 W hW; go_simp; rfl); (go_simp; refine hK _ _ ?_; clear hK K))
  refine mix_nil ?_
  rintro W ⟨mH, rfl⟩
  have H9 := hid_mk (show WL w7 (wG.drewN mH) (.slice la ln lc) qs ∧ w3.grownBy w7 none ∧ ln = qs.length from ⟨(WL.of H8.out.1).kept (grown_trans GwG.out (grown_drewN _ mH none)), G7.out, H8.out.2.2.1⟩)
  clear GwA GwB GwC GwD GwE GwF GwG Gw8 HRF H8 HCL8 G7
  generalize wG.drewN mH = w9 at *
  go_wp2_with fail
  go_loopw [20] (fun kv W => ∃ k : Nat, k ≤ ln ∧ kv = .int .i64 k ∧ Hid (WL w7 W (.slice la ln lc) qs)) (fun kv _ => ln - (intOf kv).toNat)
  case atStart => exact ⟨0, Nat.zero_le _, rfl, hid_mk H9.out.1⟩
  case round =>
    obtain ⟨k, hk, rfl, H⟩ := hrel
    rename World => wr
    by_cases hlt : k < ln
    · have hlt' : (k : Int) < ln := by omega
      obtain ⟨p, hp⟩ : ∃ p, qs[k]? = some p := ⟨qs[k]'(by rw [← H9.out.2.2]; exact hlt), List.getElem?_eq_getElem _⟩
      obtain ⟨hlq, g, hla, hcap, cq, cur, hcur⟩ := H.out.at hp
      clear hlq
      subst hla
      obtain ⟨hraw, hdl⟩ := H.out.each p (List.mem_of_getElem? hp)
      obtain ⟨da, dc, hpv, _⟩ := hraw
      obtain ⟨dn, hdn⟩ : ∃ dn, dn = p.1.data.length := ⟨_, rfl⟩
      rw [← hdn] at hdl hpv
      rw [hpv] at cq
      have HP := hid_mk (And.intro hp (And.intro hdn hpv))
      clear hp hdn hpv hcur
      go_wp2_with fail
      clear cq
      go_loopw [21] (fun jv W => ∃ j : Nat, j ≤ dn ∧ jv = .int .i64 j ∧ Hid (WL w7 W (.slice (some ⟨g, 0, none⟩) ln lc) qs)) (fun jv _ => dn - (intOf jv).toNat)
      case atStart => exact ⟨0, Nat.zero_le _, rfl, hid_mk H.out⟩
      case round =>
        clear H
        obtain ⟨j, hj, rfl, H⟩ := hrel
        rename World => wi
        obtain ⟨hlq, g', hg', _, cq, cur, hcur⟩ := H.out.at HP.out.1
        clear hlq
        cases hg'
        rw [HP.out.2.2] at cq
        by_cases hjl : j < dn
        · have hjl' : (j : Int) < dn := by omega
          obtain ⟨hraw, _⟩ := H.out.each p (List.mem_of_getElem? HP.out.1)
          rw [← HP.out.2.1] at hraw
          obtain ⟨dg, dcur, dcap, hpd, hlo, hdg, hfz, hcell⟩ := hraw.at (by omega)
          rw [HP.out.2.2] at hpd
          injection hpd with e1 _ e3
          subst e1
          subst e3
          obtain ⟨u, hu, x, hx⟩ := hcell j (by omega)
          subst hx
          have hcap5 : dn ≤ dc ∨ True := .inr trivial
          have HCI : ∀ W, wi.grownBy W none → W.cell? ⟨g, k * 4 + 3, none⟩ = some (.slice (some ⟨dg, 0, none⟩) dn dc) ∧ W.cell? ⟨dg, j, none⟩ = some (.int .u8 x) := fun W hW => ⟨hW.cell cq (by simp), hW.cell hu (by simp)⟩
          have HDG := hid_mk (And.intro hdg hlo)
          have HFZ := hid_mk hfz
          clear hraw hu hcell hdg hlo hfz hcur
          go_upto_region 14 with fail
          clear cq
          refine wp_region_mixL [(0, true), (1, true), (2, true), (3, true), (4, true), (5, true), (6, true), (7, true), (8, true), (9, true), (10, true), (11, true), (12, true), (13, true), (14, true), (15, true)] 16 (at0 wi (fun W => wi.grownBy W none)) (by kernel_rfl) (by kernel_rfl) rfl (by kernel_rfl) rfl (by kernel_rfl) (shut_at0 (fun m => grown_drewN _ m none)) ⟨1, rfl⟩ ?_
          repeat (refine mix_rd1 rfl rfl (fun K hK => ?_); apply Exists.intro; refine ⟨fun W hW => ?_, ?_⟩; (obtain ⟨c0, c1⟩ := HCI W hW; go_simp; rfl); (go_simp; refine hK _ _ ?_; clear hK K))
          refine mix_nil ?_
          refine ⟨rfl, ?_⟩
          rintro W ⟨m5, rfl⟩
          obtain ⟨c0, c1⟩ := HCI (wi.drewN m5) (grown_drewN _ m5 none)
          have cz : (wi.drewN m5).frozen? ⟨dg, j, none⟩ = false := HFZ.out j
          obtain ⟨y, hy⟩ : ∃ y, y = IntKind.u8.wrap (x + 1) := ⟨_, rfl⟩
          refine ⟨(wi.drewN m5).setCell ⟨dg, j, none⟩ (.int .u8 y), by rw [hy]; go_simp, ?_⟩
          have HN := hid_mk (show WL w7 ((wi.drewN m5).setCell ⟨dg, j, none⟩ (.int .u8 y)) (.slice (some ⟨g, 0, none⟩) ln lc) qs from (H.out.kept (grown_drewN _ m5 none)).set HDG.out.1 HDG.out.2)
          clear c0 c1 cz hy
          generalize (wi.drewN m5).setCell ⟨dg, j, none⟩ (.int .u8 y) = wn at *
          go_wp2_with fail
          go_roundw
          case rel => exact ⟨j + 1, by omega, by first | rfl | (congr 1; done) | (congr 1; omega), hid_mk HN.out⟩
          case measure => simp [intOf]; omega
        · have hjl' : ¬ (j : Int) < dn := by omega
          have HN := hid_mk H.out
          clear H hcur
          go_wp2_with fail
          go_roundw
          case rel => exact ⟨k + 1, by omega, by first | rfl | (congr 1; done) | (congr 1; omega), hid_mk HN.out⟩
          case measure => simp [intOf]; omega
    · have hlt' : ¬ (k : Int) < ln := by omega
      have G9 := hid_mk (show w3.grownBy wr none from grown_trans H9.out.2.1 H.out.gr)
      clear H
      obtain ⟨d0, d1, d2, d3, d4, d5⟩ := HCL wr G9.out
      go_wp2_with fail
      rw [← HVn.out, ← HV.out]
      refine (sameV_any b t _ _ es wr (H3.out.1.kept G9.out) (HE.out.1.kept (grown_trans H3.out.2.2.2 G9.out)) hn').mono ?_
      rintro e wx ⟨rfl, hg⟩
      rw [HVn.out, HV.out]
      have GX := hid_mk (grown_trans (grown_trans H3.out.2.2.2 G9.out) hg)
      clear hg d0 d1 d2 d3 d4 d5
      go_wp2_with fail
      refine (knows_any wx).mono ?_
      rintro e wy ⟨rfl, hg⟩
      have GY := hid_mk (grown_trans GX.out hg)
      clear hg
      go_wp2
      go_ret
      exact ⟨rfl, GY.out⟩
end Go.Proofs.Ytckblgpalbedhaa.W
