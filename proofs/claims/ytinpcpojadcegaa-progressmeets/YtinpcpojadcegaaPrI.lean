/- Do, where entries are added and none is cut off. -/
import Derived.Test.YtinpcpojadcegaaEnN
namespace Go.Proofs.Ytinpcpojadcegaa.W
open Go.RowKit Go.Maps
set_option linter.unusedVariables false
set_option linter.unusedSimpArgs false
set_option maxRecDepth 100000
attribute [local go_sem] Oper.semAt_some

set_option maxHeartbeats 4000000 in
theorem do_add (b t : Int) (lv : Value) (es : List Ent) (y : Bool) (m : Int) (av : Value) (add : List Ent) (w : World) (h : EntsR w lv es) (h2 : EntsR w av add) (hr : rightV b t es = true)
    (hlen : es.length + add.length ≤ 4096) (hgo2 : goB (endI b es) (endT t es) add = true) :
    Calls Try.prog 22 #[viewV b t lv, .agg #[.bool y, .int .i64 m, .int .i64 0, av]] w fun e w' => ∃ lv' ps, e = .returned (viewV b t lv') ∧ EO w w' lv' ps ∧ ps.map (·.1) = es ++ add := by
  obtain ⟨a, c, rfl⟩ := h.len
  obtain ⟨a2, c2, rfl⟩ := h2.len
  have HE := hid_mk (And.intro h (And.intro h2 hgo2))
  clear h h2 hgo2
  have hV : viewV b t (.slice a es.length c) = .agg #[.int .i64 b, .int .i64 t, .slice a es.length c] := rfl
  have HV := hid_mk hV
  rw [hV]
  clear hV
  have hsp := rightV_spec hr
  have HR := hid_mk (And.intro hr hsp.2.2.2.2.2)
  have hb0 := hsp.1
  have hb1 := hsp.2.1
  have hl1 := hsp.2.2.2.2.1
  clear hr hsp
  have HA := hid_mk (show VB (((w.alloc (.cells #[.int .i64 b, .int .i64 t, .slice a es.length c] 25)).alloc (.cells #[.bool y, .int .i64 m, .int .i64 0, .slice a2 add.length c2] 56)).alloc (.cells #[.int .i64 0, .int .i64 0, .slice none 0 0] 25)) w.heap.size b t (.slice a es.length c) ∧ FB (((w.alloc (.cells #[.int .i64 b, .int .i64 t, .slice a es.length c] 25)).alloc (.cells #[.bool y, .int .i64 m, .int .i64 0, .slice a2 add.length c2] 56)).alloc (.cells #[.int .i64 0, .int .i64 0, .slice none 0 0] 25)) (w.heap.size + 1) y m 0 (.slice a2 add.length c2) ∧ VB (((w.alloc (.cells #[.int .i64 b, .int .i64 t, .slice a es.length c] 25)).alloc (.cells #[.bool y, .int .i64 m, .int .i64 0, .slice a2 add.length c2] 56)).alloc (.cells #[.int .i64 0, .int .i64 0, .slice none 0 0] 25)) (w.heap.size + 1 + 1) 0 0 (.slice none 0 0) ∧ w.grownBy (((w.alloc (.cells #[.int .i64 b, .int .i64 t, .slice a es.length c] 25)).alloc (.cells #[.bool y, .int .i64 m, .int .i64 0, .slice a2 add.length c2] 56)).alloc (.cells #[.int .i64 0, .int .i64 0, .slice none 0 0] 25)) none ∧ (((w.alloc (.cells #[.int .i64 b, .int .i64 t, .slice a es.length c] 25)).alloc (.cells #[.bool y, .int .i64 m, .int .i64 0, .slice a2 add.length c2] 56)).alloc (.cells #[.int .i64 0, .int .i64 0, .slice none 0 0] 25)).heap.size = w.heap.size + 3 from by
    have h1 := VB.new w b t (.slice a es.length c)
    have h2 : FB ((w.alloc (.cells #[.int .i64 b, .int .i64 t, .slice a es.length c] 25)).alloc (.cells #[.bool y, .int .i64 m, .int .i64 0, .slice a2 add.length c2] 56)) _ y m 0 (.slice a2 add.length c2) := heap_alloc_new _ _
    have h3 := VB.new ((w.alloc (.cells #[.int .i64 b, .int .i64 t, .slice a es.length c] 25)).alloc (.cells #[.bool y, .int .i64 m, .int .i64 0, .slice a2 add.length c2] 56)) 0 0 (.slice none 0 0)
    rw [World.size_alloc] at h2
    rw [World.size_alloc, World.size_alloc] at h3
    exact ⟨(h1.kept (World.grownBy_alloc _ _ none) (by simp)).kept (World.grownBy_alloc _ _ none) (by simp), h2.kept (World.grownBy_alloc _ _ none) (by simp), h3, grown_trans (grown_trans (World.grownBy_alloc _ _ none) (World.grownBy_alloc _ _ none)) (World.grownBy_alloc _ _ none), by simp⟩)
  go_enter Try.func22, Try.ntmps22
  go_upto_region 1 with fail
  generalize ((w.alloc (.cells #[.int .i64 b, .int .i64 t, .slice a es.length c] 25)).alloc (.cells #[.bool y, .int .i64 m, .int .i64 0, .slice a2 add.length c2] 56)).alloc (.cells #[.int .i64 0, .int .i64 0, .slice none 0 0] 25) = w1 at *
  obtain ⟨v0, v1, v2⟩ := HA.out.1.cells
  go_wp2_with fail
  rw [← HV.out]
  refine (rightV_any b t _ es w1 (HE.out.1.kept HA.out.2.2.2.1) (by omega) (by unfold I64; omega)).mono ?_
  rintro e w2 ⟨rfl, hg⟩
  rw [HV.out, HR.out.1]
  have HG2 := hid_mk (show VB (w2.alloc (.cells #[.int .i64 b, .int .i64 t, .slice a es.length c] 25)) w.heap.size b t (.slice a es.length c) ∧ FB (w2.alloc (.cells #[.int .i64 b, .int .i64 t, .slice a es.length c] 25)) (w.heap.size + 1) y m 0 (.slice a2 add.length c2) ∧ VB (w2.alloc (.cells #[.int .i64 b, .int .i64 t, .slice a es.length c] 25)) (w.heap.size + 1 + 1) 0 0 (.slice none 0 0) ∧ VB (w2.alloc (.cells #[.int .i64 b, .int .i64 t, .slice a es.length c] 25)) w2.heap.size b t (.slice a es.length c) ∧ w.grownBy (w2.alloc (.cells #[.int .i64 b, .int .i64 t, .slice a es.length c] 25)) none ∧ w.heap.size + 3 ≤ w2.heap.size from by
    obtain ⟨q1, q2, q3, q4, q5⟩ := HA.out
    have ga := World.grownBy_alloc w2 (.cells #[.int .i64 b, .int .i64 t, .slice a es.length c] 25) none
    have hg' := grown_trans hg ga
    exact ⟨q1.kept hg' (by simp), q2.kept hg' (by simp), q3.kept hg' (by simp), VB.new _ _ _ _, grown_trans q4 hg', by have := hg.size; omega⟩)
  have k0 := (HA.out.1.kept hg (by simp)).cells
  obtain ⟨k0, k1, k2⟩ := k0
  clear hg v0 v1 v2 HA
  go_upto_region 4 with fail
  clear k0 k1 k2
  generalize w2.alloc (.cells #[.int .i64 b, .int .i64 t, .slice a es.length c] 25) = w3 at *
  obtain ⟨p5, hp5⟩ : ∃ p5, p5 = w2.heap.size := ⟨_, rfl⟩
  rw [← hp5] at HG2 ⊢
  clear hp5
  obtain ⟨f0, f1, f2, f3⟩ := HG2.out.2.1.cells
  have HSL := hid_mk HE.out.1
  have HG6 := hid_mk (show VB w3 w.heap.size b t (.slice a es.length c) ∧ FB w3 (w.heap.size + 1) y m 0 (.slice a2 add.length c2) ∧ VB w3 (w.heap.size + 1 + 1) 0 0 (.slice none 0 0) ∧ VB w3 p5 b t (.slice a es.length c) ∧ w.grownBy w3 none ∧ w.heap.size + 3 ≤ p5 ∧ p5 < w3.heap.size from by
    obtain ⟨q1, q2, q3, q4, q5, q6⟩ := HG2.out
    exact ⟨q1, q2, q3, q4, q5, q6, q4.lt⟩)
  clear HG2
  obtain ⟨k0, k1, k2⟩ := HG6.out.2.2.2.1.cells
  have hVk : viewV b t (.slice a es.length c) = .agg #[.int .i64 b, .int .i64 t, .slice a es.length c] := rfl
  have HVk := hid_mk hVk
  clear hVk
  go_wp2_with fail
  rw [← HVk.out]
  refine (end_any b t _ es w3 (HSL.out.kept HG6.out.2.2.2.2.1) (by omega)).mono ?_
  rintro e w7 ⟨rfl, hg⟩
  rw [HVk.out]
  obtain ⟨I0, hI0⟩ : ∃ I0, I0 = endI b es := ⟨_, rfl⟩
  obtain ⟨T0, hT0⟩ : ∃ T0, T0 = endT t es := ⟨_, rfl⟩
  have HI64 := hid_mk (show I64 I0 from by
    rw [hI0]
    unfold endI I64
    cases hl : es.getLast? with
    | none => simp only; omega
    | some x =>
      rw [List.getLast?_eq_getElem?] at hl
      have := rightE_span (goB_at es HR.out.2 _ x hl).2.2
      simp only; omega)
  rw [← hI0, ← hT0] at HE ⊢
  clear hI0 hT0 k0 k1 k2
  have HG7 := hid_mk (show VB (w7.alloc (.cells #[.int .i64 I0, .int .i64 T0, .slice a2 add.length c2] 25)) w.heap.size b t (.slice a es.length c) ∧ VB (w7.alloc (.cells #[.int .i64 I0, .int .i64 T0, .slice a2 add.length c2] 25)) (w.heap.size + 1 + 1) 0 0 (.slice none 0 0) ∧ VB (w7.alloc (.cells #[.int .i64 I0, .int .i64 T0, .slice a2 add.length c2] 25)) p5 b t (.slice a es.length c) ∧ VB (w7.alloc (.cells #[.int .i64 I0, .int .i64 T0, .slice a2 add.length c2] 25)) w7.heap.size I0 T0 (.slice a2 add.length c2) ∧ w.grownBy (w7.alloc (.cells #[.int .i64 I0, .int .i64 T0, .slice a2 add.length c2] 25)) none ∧ w.heap.size + 3 ≤ p5 ∧ p5 < w7.heap.size from by
    obtain ⟨q1, q2, q3, q4, q5, q6, q7⟩ := HG6.out
    have ga := World.grownBy_alloc w7 (.cells #[.int .i64 I0, .int .i64 T0, .slice a2 add.length c2] 25) none
    have hg' := grown_trans hg ga
    exact ⟨q1.kept hg' (by simp), q3.kept hg' (by simp), q4.kept hg' (by simp), VB.new _ _ _ _, grown_trans q5 hg', q6, by have := hg.size; omega⟩)
  obtain ⟨f0, f1, f2, f3⟩ := (HG6.out.2.1.kept hg (by simp)).cells
  go_upto_region 8 with fail
  clear f0 f1 f2 f3 hg HG6
  generalize w7.alloc (.cells #[.int .i64 I0, .int .i64 T0, .slice a2 add.length c2] 25) = w8 at *
  obtain ⟨p8, hp8⟩ : ∃ p8, p8 = w7.heap.size := ⟨_, rfl⟩
  rw [← hp8] at HG7 ⊢
  clear hp8
  obtain ⟨k0, k1, k2⟩ := HG7.out.2.2.1.cells
  obtain ⟨n0, n1, n2⟩ := HG7.out.2.2.2.1.cells
  have hVa : viewV I0 T0 (.slice a2 add.length c2) = .agg #[.int .i64 I0, .int .i64 T0, .slice a2 add.length c2] := rfl
  have HVa := hid_mk hVa
  clear hVa
  have hle : ¬ ((es.length : Int) + add.length > 4096) := by omega
  go_wp2_with fail
  rw [← HVa.out]
  refine (goesOn_any I0 T0 _ add w8 (HE.out.2.1.kept HG7.out.2.2.2.2.1) (by omega) HI64.out).mono ?_
  rintro e w9 ⟨rfl, hg⟩
  rw [HVa.out, HE.out.2.2]
  have HG9 := hid_mk (show VB w9 w.heap.size b t (.slice a es.length c) ∧ VB w9 (w.heap.size + 1 + 1) 0 0 (.slice none 0 0) ∧ VB w9 p5 b t (.slice a es.length c) ∧ VB w9 p8 I0 T0 (.slice a2 add.length c2) ∧ w.grownBy w9 none ∧ w.heap.size + 3 ≤ p5 ∧ p5 < p8 from by
    obtain ⟨q1, q2, q3, q4, q5, q6, q7⟩ := HG7.out
    exact ⟨q1.kept hg (by simp), q2.kept hg (by simp), q3.kept hg (by simp), q4.kept hg (by simp), grown_trans q5 hg, q6, q7⟩)
  clear hg k0 k1 k2 n0 n1 n2 HG7
  go_upto_region 10 with fail
  obtain ⟨r4, hr4⟩ : ∃ r4, r4 = w.heap.size + 1 + 1 := ⟨_, rfl⟩
  have HR4 := hid_mk (show w.heap.size < r4 ∧ r4 < p5 from by have := HG9.out.2.2.2.2.2; omega)
  rw [← hr4] at HG9 ⊢
  clear hr4
  have HCL : ∀ W, w9.grownBy W (some r4) → W.cell? ⟨w.heap.size, 0, none⟩ = some (.int .i64 b) ∧ W.cell? ⟨w.heap.size, 1, none⟩ = some (.int .i64 t) ∧ W.cell? ⟨p5, 0, none⟩ = some (.int .i64 b) ∧ W.cell? ⟨p5, 1, none⟩ = some (.int .i64 t) ∧ W.cell? ⟨p5, 2, none⟩ = some (.slice a es.length c) ∧ W.cell? ⟨p8, 0, none⟩ = some (.int .i64 I0) ∧ W.cell? ⟨p8, 1, none⟩ = some (.int .i64 T0) ∧ W.cell? ⟨p8, 2, none⟩ = some (.slice a2 add.length c2) := fun W hW => by
    have hp := HG9.out.2.2.2.2.2
    have hr := HR4.out
    obtain ⟨x0, x1, x2⟩ := (HG9.out.1.kept hW (by simp; omega)).cells
    obtain ⟨y0, y1, y2⟩ := (HG9.out.2.2.1.kept hW (by simp; omega)).cells
    exact ⟨x0, x1, y0, y1, y2, (HG9.out.2.2.2.1.kept hW (by simp; omega)).cells⟩
  refine wp_region_mix [(0, true), (1, true), (2, true), (3, true), (4, true), (6, true), (5, false), (7, false), (8, false), (9, false), (10, true), (11, false)] (at0 w9 (fun W => w9.grownBy W (some r4))) (by kernel_rfl) (by kernel_rfl) rfl (by kernel_rfl) (shut_at0 (fun m => grown_drewN _ m _)) ⟨1, rfl⟩ ?_
  repeat (refine mix_rd1 rfl rfl (fun K hK => ?_); apply Exists.intro; refine ⟨fun W hW => ?_, ?_⟩; (obtain ⟨d0, d1, d2, d3, d4, d5, d6, d7⟩ := HCL W hW; go_simp; rfl); (go_simp; refine hK _ _ ?_; clear hK K))
  refine mix_call rfl rfl 47 #[viewV b t (.slice a es.length c)] (fun W => by rw [HVk.out]; go_simp) ?_
  rintro W ⟨mA, rfl⟩
  refine (each_any b t _ es w (w9.drewN mA) HSL.out (grown_trans HG9.out.2.2.2.2.1 (grown_drewN _ mA none)) (by omega)).mono ?_
  rintro e wA ⟨f, D, rfl, hsq, hgA⟩
  obtain ⟨gf, lb, hf, _⟩ := hsq.seq
  subst hf
  have GA := hid_mk (show w9.grownBy wA none from grown_trans (grown_drewN _ mA none) hgA)
  have SA := hid_mk hsq
  clear hgA hsq
  refine ⟨_, rfl, at0 wA (fun W => w9.grownBy W (some r4)), ⟨0, rfl⟩, shut_at0 (fun m => grown_trans (grown_any GA.out _) (grown_drewN _ m _)), fun _ h => h, ?_⟩
  refine mix_call rfl rfl 47 #[viewV I0 T0 (.slice a2 add.length c2)] (fun W => by rw [HVa.out]; go_simp) ?_
  rintro W ⟨mB, rfl⟩
  refine (each_any I0 T0 _ add w (wA.drewN mB) HE.out.2.1 (grown_trans HG9.out.2.2.2.2.1 (grown_trans GA.out (grown_drewN _ mB none))) (by omega)).mono ?_
  rintro e wB ⟨f', D', rfl, hsq, hgB⟩
  obtain ⟨gf', lb', hf', _⟩ := hsq.seq
  subst hf'
  have hgB' := grown_trans (grown_drewN wA mB none) hgB
  have GB := hid_mk (show w9.grownBy wB none from grown_trans GA.out hgB')
  have SA2 := hid_mk (SA.out.later hgB')
  have SB := hid_mk hsq
  have ZB := hid_mk (show wA.heap.size ≤ wB.heap.size from hgB'.size)
  clear hgB hgB' hsq SA
  refine ⟨_, rfl, at0 wB (fun W => w9.grownBy W (some r4)), ⟨0, rfl⟩, shut_at0 (fun m => grown_trans (grown_any GB.out _) (grown_drewN _ m _)), fun _ h => h, ?_⟩
  refine mix_do rfl rfl ?_
  rintro W ⟨mC, rfl⟩
  refine ⟨.slice (some ⟨wB.heap.size, 0, none⟩) 2 2, (wB.drewN mC).alloc (.cells #[.func (.func gf) #[] lb, .func (.func gf') #[] lb'] 81), by go_simp, ?_⟩
  have gC : wB.grownBy ((wB.drewN mC).alloc (.cells #[.func (.func gf) #[] lb, .func (.func gf') #[] lb'] 81)) none := grown_trans (grown_drewN wB mC none) (World.grownBy_alloc _ _ none)
  have HC := hid_mk (show Blk ((wB.drewN mC).alloc (.cells #[.func (.func gf) #[] lb, .func (.func gf') #[] lb'] 81)) wB.heap.size #[.func (.func gf) #[] lb, .func (.func gf') #[] lb'] 81 ∧ wB.grownBy ((wB.drewN mC).alloc (.cells #[.func (.func gf) #[] lb, .func (.func gf') #[] lb'] 81)) none from ⟨heap_alloc_new (wB.drewN mC) _, gC⟩)
  clear gC
  generalize (wB.drewN mC).alloc (.cells #[.func (.func gf) #[] lb, .func (.func gf') #[] lb'] 81) = wC at *
  refine ⟨at0 wC (fun W => w9.grownBy W (some r4)), ⟨0, rfl⟩, shut_at0 (fun m => grown_trans (grown_any (grown_trans GB.out HC.out.2) _) (grown_drewN _ m _)), fun _ h => h, ?_⟩
  refine mix_call rfl rfl 43 #[.slice (some ⟨wB.heap.size, 0, none⟩) 2 2] (fun W => by go_simp) ?_
  rintro W ⟨mD, rfl⟩
  have gD := grown_drewN wC mD none
  have hwC := grown_trans (grown_trans HG9.out.2.2.2.2.1 GB.out) (grown_trans HC.out.2 gD)
  refine (copies2_any (wC.drewN mD) (SA2.out.later (grown_trans HC.out.2 gD)) (SB.out.later (grown_trans HC.out.2 gD)) hwC.size (Nat.le_trans ZB.out (grown_trans HC.out.2 gD).size) hwC.size (grown_trans HC.out.2 gD).size (by rw [(HC.out.1.kept gD (by simp)).cell]; rfl) (by rw [(HC.out.1.kept gD (by simp)).cell]; rfl) (by omega)).mono ?_
  rintro e wD ⟨lv', ps, rfl, heo, hmap⟩
  obtain ⟨va, vc, hv⟩ := row_shape heo.row
  subst hv
  have HD := hid_mk (show EO w wD (.slice va ps.length vc) ps ∧ w9.grownBy wD none ∧ ps.map (·.1) = es ++ add from ⟨heo.base hwC, grown_trans (grown_trans GB.out (grown_trans HC.out.2 gD)) heo.gr, hmap⟩)
  clear heo hmap gD hwC
  refine ⟨_, rfl, at0 wD (fun W => w9.grownBy W (some r4)), ⟨0, rfl⟩, shut_at0 (fun m => grown_trans (grown_any HD.out.2.1 _) (grown_drewN _ m _)), fun _ h => h, ?_⟩
  refine mix_rd1 rfl rfl (fun K hK => ?_); apply Exists.intro; refine ⟨fun W hW => ?_, ?_⟩; (go_simp; rfl); (go_simp; refine hK _ _ ?_; clear hK K)
  refine mix_skip rfl rfl ?_
  rintro W ⟨mE, rfl⟩
  have hvE := HG9.out.2.1.kept (grown_trans HD.out.2.1 (grown_drewN wD mE none)) (by simp)
  obtain ⟨e0, e1, e2⟩ := hvE.cells
  have z0 := hvE.frozen (i := 0)
  have z1 := hvE.frozen (i := 1)
  have z2 := hvE.frozen (i := 2)
  obtain ⟨pu1, pu2⟩ := hvE.put b t (.slice va ps.length vc)
  have HF := hid_mk (show VB ((((wD.drewN mE).setCell ⟨r4, 0, none⟩ (.int .i64 b)).setCell ⟨r4, 1, none⟩ (.int .i64 t)).setCell ⟨r4, 2, none⟩ (.slice va ps.length vc)) r4 b t (.slice va ps.length vc) ∧ w9.grownBy ((((wD.drewN mE).setCell ⟨r4, 0, none⟩ (.int .i64 b)).setCell ⟨r4, 1, none⟩ (.int .i64 t)).setCell ⟨r4, 2, none⟩ (.slice va ps.length vc)) (some r4) ∧ EO w ((((wD.drewN mE).setCell ⟨r4, 0, none⟩ (.int .i64 b)).setCell ⟨r4, 1, none⟩ (.int .i64 t)).setCell ⟨r4, 2, none⟩ (.slice va ps.length vc)) (.slice va ps.length vc) ps from
    ⟨pu1, grown_trans (grown_any (grown_trans HD.out.2.1 (grown_drewN wD mE none)) _) pu2, (HD.out.1.kept (grown_drewN wD mE none)).but hvE (by decide) (by decide) (by have := HR4.out; omega) pu2⟩)
  refine ⟨_, by go_simp; rfl, at0 ((((wD.drewN mE).setCell ⟨r4, 0, none⟩ (.int .i64 b)).setCell ⟨r4, 1, none⟩ (.int .i64 t)).setCell ⟨r4, 2, none⟩ (.slice va ps.length vc)) (fun W => w9.grownBy W (some r4)), ⟨0, rfl⟩, shut_at0 (fun m => grown_trans HF.out.2.1 (grown_drewN _ m _)), fun _ h => h, ?_⟩
  clear hvE e0 e1 e2 z0 z1 z2 pu1 pu2
  generalize (((wD.drewN mE).setCell ⟨r4, 0, none⟩ (.int .i64 b)).setCell ⟨r4, 1, none⟩ (.int .i64 t)).setCell ⟨r4, 2, none⟩ (.slice va ps.length vc) = wF at *
  refine mix_nil ?_
  rintro W ⟨mF, rfl⟩
  go_wp2_with fail
  refine bodyPost_ret (ret_view rfl _ _ _ _ _ _ rfl (HF.out.1.kept (grown_drewN wF mF none) (by simp))) rfl ?_
  exact ⟨_, ps, rfl, HF.out.2.2.kept (grown_drewN wF mF none), HD.out.2.2⟩
end Go.Proofs.Ytinpcpojadcegaa.W
