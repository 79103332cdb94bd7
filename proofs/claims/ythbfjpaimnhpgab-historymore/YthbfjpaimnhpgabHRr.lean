/- history: the document's Right. -/
import Derived.Test.YthbfjpaimnhpgabHKn
import Derived.Test.YthbfjpaimnhpgabHP2
namespace Go.Proofs.Ythbfjpaimnhpgab
open Go.RowKit Go.Maps
set_option linter.unusedVariables false
set_option linter.unusedSimpArgs false
set_option maxRecDepth 100000

/-- Call i beside call k. -/
def okp (x y : Ca) : Prop := x.c = y.c → x.b ≠ y.b ∧ (x.b < y.b → x.an = true ∧ x.e ≤ y.b)
instance (x y : Ca) : Decidable (okp x y) := by unfold okp; exact inferInstance
theorem clear_iff {x y : Ca} : clearG x y ↔ okp x y ∧ okp y x := by
  unfold clearG okp
  constructor
  · intro h
    exact ⟨fun e => ⟨(h e).1, (h e).2.1⟩, fun e => ⟨fun e' => (h e.symm).1 e'.symm, (h e.symm).2.2⟩⟩
  · rintro ⟨h, k⟩ e
    exact ⟨(h e).1, (h e).2, (k e.symm).2⟩
def RowP (l : List Ca) (i : Nat) : Prop := aloneG l[i]! = true ∧ ∀ k, k < l.length → k ≠ i → okp l[i]! l[k]!
theorem right_rows {l : List Ca} : RightP l ↔ l.length ≤ 2000 ∧ ∀ i, i < l.length → RowP l i := by
  unfold RightP RowP
  constructor
  · rintro ⟨h1, h2, h3⟩
    refine ⟨h1, fun i hi => ⟨?_, fun k hk hne => ?_⟩⟩
    · rw [getElem!_pos l i hi]; exact h2 _ (List.getElem_mem hi)
    · rw [getElem!_pos l i hi, getElem!_pos l k hk]
      rw [List.pairwise_iff_getElem] at h3
      rcases Nat.lt_or_gt_of_ne hne with h | h
      · exact (clear_iff.1 (h3 k i hk hi h)).2
      · exact (clear_iff.1 (h3 i k hi hk h)).1
  · rintro ⟨h1, h2⟩
    refine ⟨h1, fun x hx => ?_, ?_⟩
    · obtain ⟨i, hi, rfl⟩ := List.getElem_of_mem hx
      have := (h2 i hi).1
      rwa [getElem!_pos l i hi] at this
    · rw [List.pairwise_iff_getElem]
      intro i j hi hj hij
      have a := (h2 i hi).2 j hj (by omega)
      have b := (h2 j hj).2 i hi (by omega)
      rw [getElem!_pos l i hi, getElem!_pos l j hj] at a b
      exact clear_iff.2 ⟨a, b⟩
set_option maxHeartbeats 4000000 in
theorem alone_lit (c b e k at0 : Int) (an : Bool) (fr mo nu st : Int) (da : Option Addr) (dn dc : Nat) (ra : Option Addr) (rn rc : Nat) (dd : List UInt8) (rs : List (List UInt8)) (w : World) : Calls Try.prog 16 #[.agg #[.int .i64 c, .int .i64 b, .int .i64 e, .int .i64 k, .int .i64 at0, .bool an, .int .i64 fr, .int .i64 mo, .int .i64 nu, .int .i64 st, .slice da dn dc, .slice ra rn rc]] w fun e' w' => e' = .returned (.bool (aloneG ⟨c, b, e, k, at0, an, fr, mo, nu, st, dd, rs⟩)) ∧ w.grownBy w' none := by
  have HG := hid_mk (World.grownBy_alloc w (.cells #[.int .i64 c, .int .i64 b, .int .i64 e, .int .i64 k, .int .i64 at0, .bool an, .int .i64 fr, .int .i64 mo, .int .i64 nu, .int .i64 st, .slice da dn dc, .slice ra rn rc] 27) none)
  obtain ⟨c0, c1, c2, c3, c4, c5, c6, c7, c8, c9, c10, c11, hf⟩ := blk12 (blk_alloc w #[.int .i64 c, .int .i64 b, .int .i64 e, .int .i64 k, .int .i64 at0, .bool an, .int .i64 fr, .int .i64 mo, .int .i64 nu, .int .i64 st, .slice da dn dc, .slice ra rn rc] 27)
  go_enter Try.func16, Try.ntmps16
  go_upto_region 1 with fail
  generalize (w.alloc (.cells #[.int .i64 c, .int .i64 b, .int .i64 e, .int .i64 k, .int .i64 at0, .bool an, .int .i64 fr, .int .i64 mo, .int .i64 nu, .int .i64 st, .slice da dn dc, .slice ra rn rc] 27)) = w1 at *
  go_wp2
  all_goals (go_ret; refine ⟨ret_bool ?_, HG.out⟩)
  all_goals (unfold aloneG timeG; first | rfl | (rw [Bool.eq_iff_iff]; simp; omega) | (simp_all; done) | (simp_all; omega))
set_option maxHeartbeats 8000000 in
theorem rright_any {w : World} {v : Value} {L : List CE} (h : CsR w v L) (hl : L.length ≤ 1099511627776) : Calls Try.prog 8 #[v] w fun e w' => RetB e (RightP (gs L)) ∧ w.grownBy w' none := by
  obtain ⟨va, vc, hv⟩ := h.len
  have HL := hid_mk h
  have HV := hid_mk hv
  have hgl : (gs L).length = L.length := by simp [gs]
  have HGL := hid_mk hgl
  rw [hv]
  clear h hv hgl
  go_enter Try.func8, Try.ntmps8
  by_cases h2 : L.length ≤ 2000
  · have h2' : ¬ ((2000 : Int) < L.length) := by omega
    go_wp2_with fail
    go_loopg [3] L.length (fun gg iv W => ∃ i : Nat, i ≤ L.length ∧ gg = L.length - i ∧ iv = .int .i64 i ∧ Hid (w.grownBy W none ∧ ∀ j, j < i → RowP (gs L) j))
    case atStart => exact ⟨0, Nat.zero_le _, rfl, rfl, hid_mk ⟨grown_refl w none, fun j hj => by omega⟩⟩
    case round =>
      obtain ⟨i, hi, hgi, rfl, H⟩ := hrel
      rename World => W
      by_cases hlti : i < L.length
      · have hlti' : (i : Int) < L.length := by omega
        obtain ⟨lb, off, cap, he, hc⟩ := HL.out.cells hlti
        rw [HV.out] at he
        injection he with e1 e2 e3
        subst e1
        clear e2 e3
        obtain ⟨d0, d1, d2, d3, d4, d5, d6, d7, d8, d9, d10, d11⟩ := hc W H.out.1
        obtain ⟨⟨xa, xn, xc, hxd⟩, ⟨ra, rn, rc, hxr⟩⟩ := HL.out.sl _ (List.getElem_mem hlti)
        rw [hxd] at d10
        rw [hxr] at d11
        have HXG := hid_mk (show (gs L)[i]! = L[i].g from by rw [getElem!_pos (gs L) i (by rw [HGL.out]; exact hlti)]; simp [gs])
        have HC := hid_mk (show ∀ W, w.grownBy W none → W.cell? ⟨lb, off + i * 12, none⟩ = some (.int .i64 L[i].g.c) ∧ W.cell? ⟨lb, off + i * 12 + 1, none⟩ = some (.int .i64 L[i].g.b) ∧ W.cell? ⟨lb, off + i * 12 + 2, none⟩ = some (.int .i64 L[i].g.e) ∧ W.cell? ⟨lb, off + i * 12 + 5, none⟩ = some (.bool L[i].g.an) from fun W hW => by
          obtain ⟨d0, d1, d2, d3, d4, d5, d6, d7, d8, d9, d10, d11⟩ := hc W hW
          exact ⟨d0, d1, d2, d5⟩)
        have HAL := hid_mk (fun (w' : World) => show Calls Try.prog 16 #[.agg #[.int .i64 L[i].g.c, .int .i64 L[i].g.b, .int .i64 L[i].g.e, .int .i64 L[i].g.k, .int .i64 L[i].g.at', .bool L[i].g.an, .int .i64 L[i].g.fr, .int .i64 L[i].g.mo, .int .i64 L[i].g.nu, .int .i64 L[i].g.st, .slice xa xn xc, .slice ra rn rc]] w' fun e w'' => e = .returned (.bool (aloneG L[i].g)) ∧ w'.grownBy w'' none from alone_lit L[i].g.c L[i].g.b L[i].g.e L[i].g.k L[i].g.at' L[i].g.an L[i].g.fr L[i].g.mo L[i].g.nu L[i].g.st xa xn xc ra rn rc L[i].g.d L[i].g.rs w')
        clear hc hxd hxr
        generalize L[i] = x at *
        cases ha : aloneG x.g
        · rw [ha] at HAL
          have HA := hid_mk ha
          clear ha
          go_wp2_with (go_at_call 16; refine (HAL.out _).mono ?_; rintro e w2 ⟨rfl, hg2⟩; have H2 := hid_mk (grown_trans H.out.1 hg2); clear hg2)
          go_ret
          refine ⟨⟨false, rfl, ⟨fun h => (by cases h), fun hR => ?_⟩⟩, H2.out⟩
          have h9 := ((right_rows.1 hR).2 i (by rw [HGL.out]; exact hlti)).1
          rw [HXG.out, HA.out] at h9
          cases h9
        · rw [ha] at HAL
          have HA := hid_mk ha
          clear ha
          go_wp2_with (go_at_call 16; refine (HAL.out _).mono ?_; rintro e w2 ⟨rfl, hg2⟩; have H2 := hid_mk (grown_trans H.out.1 hg2); clear hg2)
          clear d0 d1 d2 d3 d4 d5 d6 d7 d8 d9 d10 d11 HAL
          have HRW := hid_mk H.out.2
          clear H
          go_loopg [4] L.length (fun gg kv W => ∃ k : Nat, k ≤ L.length ∧ gg = L.length - k ∧ kv = .int .i64 k ∧ Hid (w.grownBy W none ∧ ∀ j, j < k → j ≠ i → okp x.g (gs L)[j]!))
          case atStart => exact ⟨0, Nat.zero_le _, rfl, rfl, hid_mk ⟨H2.out, fun j hj => by omega⟩⟩
          case round =>
            clear H2
            obtain ⟨k, hk, hgk, rfl, H3⟩ := hrel
            rename World => W3
            by_cases hkl : k < L.length
            · have hkl' : (k : Int) < L.length := by omega
              have HYG := hid_mk (show (gs L)[k]! = L[k].g from by rw [getElem!_pos (gs L) k (by rw [HGL.out]; exact hkl)]; simp [gs])
              obtain ⟨lb2, off2, cap2, he2, hc2⟩ := HL.out.cells hkl
              rw [HV.out] at he2
              injection he2 with e1 e2 e3
              injection e1 with e1
              injection e1 with e1 e4 _
              subst e1 e4
              clear e2 e3
              have HC2 := hid_mk (show ∀ W, w.grownBy W none → W.cell? ⟨lb, off + k * 12, none⟩ = some (.int .i64 L[k].g.c) ∧ W.cell? ⟨lb, off + k * 12 + 1, none⟩ = some (.int .i64 L[k].g.b) ∧ W.cell? ⟨lb, off + k * 12 + 2, none⟩ = some (.int .i64 L[k].g.e) ∧ W.cell? ⟨lb, off + k * 12 + 5, none⟩ = some (.bool L[k].g.an) from fun W hW => by
                obtain ⟨d0, d1, d2, d3, d4, d5, d6, d7, d8, d9, d10, d11⟩ := hc2 W hW
                exact ⟨d0, d1, d2, d5⟩)
              clear hc2
              generalize L[k] = y at *
              obtain ⟨d0, d1, d2, d5⟩ := HC.out W3 H3.out.1
              obtain ⟨e0, e1, e2, e5⟩ := HC2.out W3 H3.out.1
              by_cases hki : k = i
              · have hki' : (k : Int) = i := by omega
                go_upto_region 11 with fail
                go_quiet (fail)
                have H4 := hid_mk (grown_trans H3.out.1 (grown_drewN _ nq none))
                generalize World.drewN _ nq = W4 at *
                clear d0 d1 d2 d5 e0 e1 e2 e5 nq
                go_wp2_with fail

                go_roundg (L.length - (k + 1))
                case measure => omega
                case rel => exact ⟨k + 1, by omega, rfl, by go_num, hid_mk ⟨H4.out, fun j hj hne => by
                  by_cases hjk : j = k
                  · subst hjk; exact absurd hki hne
                  · exact H3.out.2 j (by omega) hne⟩⟩

              · have HKI := hid_mk hki
                have hki' : ¬ (k : Int) = i := by omega
                by_cases hcc : y.g.c = x.g.c
                · have hcc' : (y.g.c != x.g.c) = false := by simp [hcc]
                  have HCC := hid_mk hcc
                  go_upto_region 11 with fail
                  go_quiet (fail)
                  have H4 := hid_mk (grown_trans H3.out.1 (grown_drewN _ nq none))
                  generalize World.drewN _ nq = W4 at *
                  clear d0 d1 d2 d5 e0 e1 e2 e5 nq
                  obtain ⟨d0, d1, d2, d5⟩ := HC.out W4 H4.out
                  obtain ⟨e0, e1, e2, e5⟩ := HC2.out W4 H4.out

                  clear hcc hcc'
                  by_cases hb : y.g.b = x.g.b
                  ·
                    have HB := hid_mk hb
                    go_upto_region 12 with fail
                    clear d0 d1 d2 d5 e0 e1 e2 e5
                    refine wp_region_mix [(0, true), (1, true), (2, true), (3, true), (4, true), (5, true), (6, true), (7, true), (8, true), (9, true), (10, true), (11, true), (12, true), (13, true), (14, true), (15, true), (16, true), (17, true), (18, true), (19, true), (20, true), (21, true), (22, true), (23, true), (24, true), (25, true), (26, true), (27, true), (28, true), (29, true), (30, true), (31, true), (32, true), (33, true), (34, true), (35, true), (36, true), (37, true), (38, true), (39, true), (40, true), (41, true), (42, true), (43, true), (44, true)] (at0 W4 (fun W => w.grownBy W none)) (by kernel_rfl) (by kernel_rfl) rfl (by kernel_rfl) (shut_at0 (fun m => grown_trans H4.out (grown_drewN _ m none))) ⟨1, rfl⟩ ?_
                    repeat (first | (refine mix_rd1 rfl rfl (fun K hK => ?_); apply Exists.intro; refine ⟨fun W hW => ?_, ?_⟩; (obtain ⟨d0, d1, d2, d5⟩ := HC.out W hW; obtain ⟨e0, e1, e2, e5⟩ := HC2.out W hW; go_simp; rfl); (go_simp; refine hK _ _ ?_; clear hK K)) | (refine mix_no1 rfl rfl (fun K hK => ?_); go_simp; refine hK _ _ ?_; clear hK K))
                    refine mix_nil ?_
                    rintro W0 ⟨m5, rfl⟩
                    have H5 := hid_mk (grown_trans H4.out (grown_drewN W4 m5 none))
                    generalize W4.drewN m5 = W5 at *
                    go_wp2_with fail

                    go_ret
                    refine ⟨⟨false, rfl, ⟨fun h => (by cases h), fun hR => absurd (((right_rows.1 hR).2 i (by rw [HGL.out]; exact hlti)).2 k (by rw [HGL.out]; exact hkl) HKI.out) (by rw [HXG.out, HYG.out]; exact fun hp => (hp HCC.out.symm).1 HB.out.symm)⟩⟩, H5.out⟩
                  · have hb' : (y.g.b == x.g.b) = false := by simp [hb]
                    by_cases hgt : y.g.b > x.g.b
                    · rcases (Bool.eq_false_or_eq_true x.g.an).symm with han | han
                      ·
                        rw [han] at HC
                        have HAN := hid_mk han
                        have HGT := hid_mk hgt
                        go_upto_region 12 with fail
                        clear d0 d1 d2 d5 e0 e1 e2 e5
                        refine wp_region_mix [(0, true), (1, true), (2, true), (3, true), (4, true), (5, true), (6, true), (7, true), (8, true), (9, true), (10, true), (11, true), (12, true), (13, true), (14, true), (15, true), (16, true), (17, true), (18, true), (19, true), (20, true), (21, true), (22, true), (23, true), (24, true), (25, true), (26, true), (27, true), (28, true), (29, true), (30, true), (31, true), (32, true), (33, true), (34, true), (35, true), (36, true), (37, true), (38, true), (39, true), (40, true), (41, true), (42, true), (43, true), (44, true)] (at0 W4 (fun W => w.grownBy W none)) (by kernel_rfl) (by kernel_rfl) rfl (by kernel_rfl) (shut_at0 (fun m => grown_trans H4.out (grown_drewN _ m none))) ⟨1, rfl⟩ ?_
                        repeat (first | (refine mix_rd1 rfl rfl (fun K hK => ?_); apply Exists.intro; refine ⟨fun W hW => ?_, ?_⟩; (obtain ⟨d0, d1, d2, d5⟩ := HC.out W hW; obtain ⟨e0, e1, e2, e5⟩ := HC2.out W hW; go_simp; rfl); (go_simp; refine hK _ _ ?_; clear hK K)) | (refine mix_no1 rfl rfl (fun K hK => ?_); go_simp; refine hK _ _ ?_; clear hK K))
                        refine mix_nil ?_
                        rintro W0 ⟨m5, rfl⟩
                        have H5 := hid_mk (grown_trans H4.out (grown_drewN W4 m5 none))
                        generalize W4.drewN m5 = W5 at *
                        go_wp2_with fail

                        go_ret
                        refine ⟨⟨false, rfl, ⟨fun h => (by cases h), fun hR => absurd (((right_rows.1 hR).2 i (by rw [HGL.out]; exact hlti)).2 k (by rw [HGL.out]; exact hkl) HKI.out) (by rw [HXG.out, HYG.out]; exact fun hp => by have h9 := ((hp HCC.out.symm).2 HGT.out).1; rw [HAN.out] at h9; cases h9)⟩⟩, H5.out⟩
                      · by_cases hen : x.g.e > y.g.b
                        ·
                          rw [han] at HC
                          have HEN := hid_mk hen
                          have HGT := hid_mk hgt
                          go_upto_region 12 with fail
                          clear d0 d1 d2 d5 e0 e1 e2 e5
                          refine wp_region_mix [(0, true), (1, true), (2, true), (3, true), (4, true), (5, true), (6, true), (7, true), (8, true), (9, true), (10, true), (11, true), (12, true), (13, true), (14, true), (15, true), (16, true), (17, true), (18, true), (19, true), (20, true), (21, true), (22, true), (23, true), (24, true), (25, true), (26, true), (27, true), (28, true), (29, true), (30, true), (31, true), (32, true), (33, true), (34, true), (35, true), (36, true), (37, true), (38, true), (39, true), (40, true), (41, true), (42, true), (43, true), (44, true)] (at0 W4 (fun W => w.grownBy W none)) (by kernel_rfl) (by kernel_rfl) rfl (by kernel_rfl) (shut_at0 (fun m => grown_trans H4.out (grown_drewN _ m none))) ⟨1, rfl⟩ ?_
                          repeat (first | (refine mix_rd1 rfl rfl (fun K hK => ?_); apply Exists.intro; refine ⟨fun W hW => ?_, ?_⟩; (obtain ⟨d0, d1, d2, d5⟩ := HC.out W hW; obtain ⟨e0, e1, e2, e5⟩ := HC2.out W hW; go_simp; rfl); (go_simp; refine hK _ _ ?_; clear hK K)) | (refine mix_no1 rfl rfl (fun K hK => ?_); go_simp; refine hK _ _ ?_; clear hK K))
                          refine mix_nil ?_
                          rintro W0 ⟨m5, rfl⟩
                          have H5 := hid_mk (grown_trans H4.out (grown_drewN W4 m5 none))
                          generalize W4.drewN m5 = W5 at *
                          go_wp2_with fail

                          go_ret
                          refine ⟨⟨false, rfl, ⟨fun h => (by cases h), fun hR => absurd (((right_rows.1 hR).2 i (by rw [HGL.out]; exact hlti)).2 k (by rw [HGL.out]; exact hkl) HKI.out) (by rw [HXG.out, HYG.out]; exact fun hp => by have h9 := ((hp HCC.out.symm).2 HGT.out).2; have := HEN.out; omega)⟩⟩, H5.out⟩
                        ·
                          rw [han] at HC
                          have HEN := hid_mk (And.intro han (And.intro hb hen))
                          clear han
                          go_upto_region 12 with fail
                          clear d0 d1 d2 d5 e0 e1 e2 e5
                          refine wp_region_mix [(0, true), (1, true), (2, true), (3, true), (4, true), (5, true), (6, true), (7, true), (8, true), (9, true), (10, true), (11, true), (12, true), (13, true), (14, true), (15, true), (16, true), (17, true), (18, true), (19, true), (20, true), (21, true), (22, true), (23, true), (24, true), (25, true), (26, true), (27, true), (28, true), (29, true), (30, true), (31, true), (32, true), (33, true), (34, true), (35, true), (36, true), (37, true), (38, true), (39, true), (40, true), (41, true), (42, true), (43, true), (44, true)] (at0 W4 (fun W => w.grownBy W none)) (by kernel_rfl) (by kernel_rfl) rfl (by kernel_rfl) (shut_at0 (fun m => grown_trans H4.out (grown_drewN _ m none))) ⟨1, rfl⟩ ?_
                          repeat (first | (refine mix_rd1 rfl rfl (fun K hK => ?_); apply Exists.intro; refine ⟨fun W hW => ?_, ?_⟩; (obtain ⟨d0, d1, d2, d5⟩ := HC.out W hW; obtain ⟨e0, e1, e2, e5⟩ := HC2.out W hW; go_simp; rfl); (go_simp; refine hK _ _ ?_; clear hK K)) | (refine mix_no1 rfl rfl (fun K hK => ?_); go_simp; refine hK _ _ ?_; clear hK K))
                          refine mix_nil ?_
                          rintro W0 ⟨m5, rfl⟩
                          have H5 := hid_mk (grown_trans H4.out (grown_drewN W4 m5 none))
                          generalize W4.drewN m5 = W5 at *
                          go_wp2_with fail

                          go_roundg (L.length - (k + 1))
                          case measure => omega
                          case rel => exact ⟨k + 1, by omega, rfl, by go_num, hid_mk ⟨H5.out, fun j hj hne => by
                            by_cases hjk : j = k
                            · subst hjk; rw [HYG.out]; exact fun _ => ⟨fun e => HEN.out.2.1 e.symm, fun _ => ⟨HEN.out.1, by have := HEN.out.2.2; omega⟩⟩
                            · exact H3.out.2 j (by omega) hne⟩⟩
                    ·
                      have HGT := hid_mk (And.intro hb hgt)
                      go_upto_region 12 with fail
                      clear d0 d1 d2 d5 e0 e1 e2 e5
                      refine wp_region_mix [(0, true), (1, true), (2, true), (3, true), (4, true), (5, true), (6, true), (7, true), (8, true), (9, true), (10, true), (11, true), (12, true), (13, true), (14, true), (15, true), (16, true), (17, true), (18, true), (19, true), (20, true), (21, true), (22, true), (23, true), (24, true), (25, true), (26, true), (27, true), (28, true), (29, true), (30, true), (31, true), (32, true), (33, true), (34, true), (35, true), (36, true), (37, true), (38, true), (39, true), (40, true), (41, true), (42, true), (43, true), (44, true)] (at0 W4 (fun W => w.grownBy W none)) (by kernel_rfl) (by kernel_rfl) rfl (by kernel_rfl) (shut_at0 (fun m => grown_trans H4.out (grown_drewN _ m none))) ⟨1, rfl⟩ ?_
                      repeat (first | (refine mix_rd1 rfl rfl (fun K hK => ?_); apply Exists.intro; refine ⟨fun W hW => ?_, ?_⟩; (obtain ⟨d0, d1, d2, d5⟩ := HC.out W hW; obtain ⟨e0, e1, e2, e5⟩ := HC2.out W hW; go_simp; rfl); (go_simp; refine hK _ _ ?_; clear hK K)) | (refine mix_no1 rfl rfl (fun K hK => ?_); go_simp; refine hK _ _ ?_; clear hK K))
                      refine mix_nil ?_
                      rintro W0 ⟨m5, rfl⟩
                      have H5 := hid_mk (grown_trans H4.out (grown_drewN W4 m5 none))
                      generalize W4.drewN m5 = W5 at *
                      go_wp2_with fail

                      go_roundg (L.length - (k + 1))
                      case measure => omega
                      case rel => exact ⟨k + 1, by omega, rfl, by go_num, hid_mk ⟨H5.out, fun j hj hne => by
                        by_cases hjk : j = k
                        · subst hjk; rw [HYG.out]; exact fun _ => ⟨fun e => HGT.out.1 e.symm, fun h8 => absurd h8 (by have := HGT.out.2; omega)⟩
                        · exact H3.out.2 j (by omega) hne⟩⟩

                · have hcc' : (y.g.c != x.g.c) = true := by simp [hcc]
                  have HCC := hid_mk hcc
                  go_upto_region 11 with fail
                  go_quiet (fail)
                  have H4 := hid_mk (grown_trans H3.out.1 (grown_drewN _ nq none))
                  generalize World.drewN _ nq = W4 at *
                  clear d0 d1 d2 d5 e0 e1 e2 e5 nq
                  go_wp2_with fail

                  go_roundg (L.length - (k + 1))
                  case measure => omega
                  case rel => exact ⟨k + 1, by omega, rfl, by go_num, hid_mk ⟨H4.out, fun j hj hne => by
                    by_cases hjk : j = k
                    · subst hjk; rw [HYG.out]; exact fun e => absurd e.symm HCC.out
                    · exact H3.out.2 j (by omega) hne⟩⟩

            · have hkl' : ¬ (k : Int) < L.length := by omega
              have ek : k = L.length := by omega
              go_wp2_with fail
              go_roundg (L.length - (i + 1))
              case measure => omega
              case rel => exact ⟨i + 1, by omega, rfl, by go_num, hid_mk ⟨H3.out.1, fun j hj => by
                by_cases hji : j = i
                · subst hji
                  refine ⟨by rw [HXG.out]; exact HA.out, fun k' hk' hne => ?_⟩
                  rw [HXG.out]
                  exact H3.out.2 k' (by rw [HGL.out] at hk'; omega) hne
                · exact HRW.out j (by omega)⟩⟩
      · have hlti' : ¬ (i : Int) < L.length := by omega
        have ei : i = L.length := by omega
        go_wp2_with fail
        go_ret
        exact ⟨⟨true, rfl, ⟨fun _ => right_rows.2 ⟨by rw [HGL.out]; exact h2, fun j hj => H.out.2 j (by rw [HGL.out] at hj; omega)⟩, fun _ => rfl⟩⟩, H.out.1⟩
  · have h2' : (2000 : Int) < L.length := by omega
    have H2 := hid_mk h2
    go_wp2_with fail
    go_ret
    exact ⟨⟨false, rfl, ⟨fun h => (by cases h), fun hR => absurd (by have := hR.1; rwa [HGL.out] at this) H2.out⟩⟩, grown_refl w none⟩
end Go.Proofs.Ythbfjpaimnhpgab
