/- watch: the document's Match. -/
import Derived.Test.YtcijjepleedecaaWaN0
namespace Go.Proofs.Ytcijjepleedecaa.W
open Go.RowKit Go.Maps
set_option linter.unusedVariables false
set_option linter.unusedSimpArgs false
set_option maxRecDepth 100000
attribute [local go_sem] Oper.semAt_some


/-- What the document's Match finds, step by step. -/
theorem lastStep {B1 : Int} {E1 : List Ent} {B2 : Int} {E2 : List Ent} {k : Nat} {x : Ent} (hx : E1[k]? = some x) {D : Nat} (hD : D = (baseC B1 B2 - B1).toNat) :
    (atB B2 E2 (B1 + 1 + k) = false → (pairs B1 E1 B2 E2).take (k + 1 - D) = (pairs B1 E1 B2 E2).take (k - D)) ∧
    (∀ y, atB B2 E2 (B1 + 1 + k) = true → E2[(B1 + 1 + k - B2 - 1).toNat]? = some y → D ≤ k ∧ (pairs B1 E1 B2 E2)[k - D]? = some (x, y) ∧ baseC B1 B2 + 1 + ((k - D : Nat) : Int) = B1 + 1 + k) := by
  have hc1 : B1 ≤ baseC B1 B2 := by unfold baseC; omega
  have hc2 : B2 ≤ baseC B1 B2 := by unfold baseC; omega
  have hc3 : baseC B1 B2 = B1 ∨ baseC B1 B2 = B2 := by unfold baseC; omega
  have hkl := (List.getElem?_eq_some_iff.1 hx).1
  constructor
  · intro hat
    rcases Nat.lt_or_ge k D with hlt | hge
    · rw [show k + 1 - D = 0 by omega, show k - D = 0 by omega]
    · have hlen : (pairs B1 E1 B2 E2).length ≤ k - D := by
        unfold pairs
        rw [List.length_zip, List.length_drop, List.length_drop]
        unfold atB at hat
        simp only [Bool.and_eq_false_iff, decide_eq_false_iff_not] at hat
        omega
      rw [List.take_of_length_le hlen, List.take_of_length_le (by omega)]
  · intro y hat hy
    unfold atB at hat
    simp only [Bool.and_eq_true, decide_eq_true_eq] at hat
    have hDk : D ≤ k := by omega
    refine ⟨hDk, ?_, by omega⟩
    unfold pairs
    rw [List.getElem?_zip_eq_some, List.getElem?_drop, List.getElem?_drop, ← hD]
    refine ⟨by rw [show D + (k - D) = k by omega]; exact hx, ?_⟩
    rw [show (baseC B1 B2 - B2).toNat + (k - D) = (B1 + 1 + k - B2 - 1).toNat by omega]
    exact hy

set_option maxHeartbeats 8000000 in
theorem rmatch_any (b1 t1 : Int) (v1 : Value) (e1 : List Ent) (b2 t2 : Int) (v2 : Value) (e2 : List Ent) (w : World) (h1 : EntsR w v1 e1) (h2 : EntsR w v2 e2) (l1 : e1.length ≤ 10000000000000) (l2 : e2.length ≤ 10000000000000) :
    Calls Try.prog 14 #[viewV b1 t1 v1, viewV b2 t2 v2] w fun e w' => e = .returned (.int .i64 (matchZ (whB b1 t1 e1) (whE b1 t1 e1) (whB b2 t2 e2) (whE b2 t2 e2))) ∧ w.grownBy w' none := by
  obtain ⟨a1, c1, rfl⟩ := h1.len
  obtain ⟨a2, c2, rfl⟩ := h2.len
  have HE := hid_mk (And.intro h1 h2)
  clear h1 h2
  have HW1 : ∀ W, w.grownBy W none → Calls Try.prog 30 #[viewV b1 t1 (.slice a1 e1.length c1)] W fun e w' => e = .returned (viewV (whB b1 t1 e1) (whT b1 t1 e1) (whV b1 t1 e1 (.slice a1 e1.length c1))) ∧ W.grownBy w' none := fun W hW => whole_any b1 t1 _ e1 W (HE.out.1.kept hW) l1
  have HW2 : ∀ W, w.grownBy W none → Calls Try.prog 30 #[viewV b2 t2 (.slice a2 e2.length c2)] W fun e w' => e = .returned (viewV (whB b2 t2 e2) (whT b2 t2 e2) (whV b2 t2 e2 (.slice a2 e2.length c2))) ∧ W.grownBy w' none := fun W hW => whole_any b2 t2 _ e2 W (HE.out.2.kept hW) l2
  have hr1 := wh_right b1 t1 e1
  have hr2 := wh_right b2 t2 e2
  have hx1 := HE.out.1.wh (b := b1) (t := t1)
  have hx2 := HE.out.2.wh (b := b2) (t := t2)
  generalize whB b1 t1 e1 = B1 at *
  generalize whT b1 t1 e1 = T1 at *
  generalize whE b1 t1 e1 = E1 at *
  generalize whV b1 t1 e1 (.slice a1 e1.length c1) = X1 at *
  generalize whB b2 t2 e2 = B2 at *
  generalize whT b2 t2 e2 = T2 at *
  generalize whE b2 t2 e2 = E2 at *
  generalize whV b2 t2 e2 (.slice a2 e2.length c2) = X2 at *
  obtain ⟨xa1, xc1, rfl⟩ := hx1.len
  obtain ⟨xa2, xc2, rfl⟩ := hx2.len
  obtain ⟨p1, p2, p3, p4, p5, p6⟩ := rightV_spec hr1
  obtain ⟨q1, q2, q3, q4, q5, q6⟩ := rightV_spec hr2
  obtain ⟨n1, hn1⟩ : ∃ n, n = E1.length := ⟨_, rfl⟩
  obtain ⟨n2, hn2⟩ : ∃ n, n = E2.length := ⟨_, rfl⟩
  rw [← hn1] at HW1 hx1
  rw [← hn2] at HW2 hx2
  have HE1 := hid_mk (show EntsR w (.slice xa1 n1 xc1) E1 ∧ n1 = E1.length ∧ n1 ≤ 4096 ∧ (0 ≤ B1 ∧ B1 ≤ 549755813888) ∧ goB B1 T1 E1 = true from ⟨hx1, hn1, by omega, ⟨p1, p2⟩, p6⟩)
  have HE2 := hid_mk (show EntsR w (.slice xa2 n2 xc2) E2 ∧ E2.length ≤ 4096 ∧ (0 ≤ B2 ∧ B2 ≤ 549755813888) from ⟨hx2, q5, q1, q2⟩)
  have HV1 : Hid (viewV B1 T1 (.slice xa1 n1 xc1) = .agg #[.int .i64 B1, .int .i64 T1, .slice xa1 n1 xc1]) := hid_mk rfl
  have HV2 : Hid (viewV B2 T2 (.slice xa2 n2 xc2) = .agg #[.int .i64 B2, .int .i64 T2, .slice xa2 n2 xc2]) := hid_mk rfl
  have HVa : Hid (viewV b1 t1 (.slice a1 e1.length c1) = .agg #[.int .i64 b1, .int .i64 t1, .slice a1 e1.length c1] ∧ viewV b2 t2 (.slice a2 e2.length c2) = .agg #[.int .i64 b2, .int .i64 t2, .slice a2 e2.length c2]) := hid_mk ⟨rfl, rfl⟩
  have HA := hid_mk (show RB ((w.alloc (.cells #[.int .i64 b1, .int .i64 t1, .slice a1 e1.length c1] 30)).alloc (.cells #[.int .i64 b2, .int .i64 t2, .slice a2 e2.length c2] 30)) w.heap.size b1 t1 (.slice a1 e1.length c1) ∧ RB ((w.alloc (.cells #[.int .i64 b1, .int .i64 t1, .slice a1 e1.length c1] 30)).alloc (.cells #[.int .i64 b2, .int .i64 t2, .slice a2 e2.length c2] 30)) (w.heap.size + 1) b2 t2 (.slice a2 e2.length c2) ∧ w.grownBy ((w.alloc (.cells #[.int .i64 b1, .int .i64 t1, .slice a1 e1.length c1] 30)).alloc (.cells #[.int .i64 b2, .int .i64 t2, .slice a2 e2.length c2] 30)) none from by
    have h1 := RB.new w b1 t1 (.slice a1 e1.length c1)
    have h2 := RB.new (w.alloc (.cells #[.int .i64 b1, .int .i64 t1, .slice a1 e1.length c1] 30)) b2 t2 (.slice a2 e2.length c2)
    rw [World.size_alloc] at h2
    exact ⟨h1.kept (World.grownBy_alloc _ _ none) (by simp), h2, grown_trans (World.grownBy_alloc _ _ none) (World.grownBy_alloc _ _ none)⟩)
  obtain ⟨c, hc⟩ : ∃ c, c = baseC B1 B2 := ⟨_, rfl⟩
  obtain ⟨Z, hZ⟩ : ∃ Z, Z = pairs B1 E1 B2 E2 := ⟨_, rfl⟩
  obtain ⟨D, hD⟩ : ∃ D, D = (baseC B1 B2 - B1).toNat := ⟨_, rfl⟩
  have HZ := hid_mk (And.intro hc (And.intro hZ hD))
  unfold matchZ
  rw [← hc, ← hZ]
  clear hx1 hx2 hn1 hn2 p1 p2 p3 p4 p5 p6 q1 q2 q3 q4 q5 q6 hr1 hr2 hc hZ hD l1 l2 HE
  unfold viewV
  go_enter Try.func14, Try.ntmps14
  go_upto_region 1 with fail
  generalize (w.alloc (.cells #[.int .i64 b1, .int .i64 t1, .slice a1 e1.length c1] 30)).alloc (.cells #[.int .i64 b2, .int .i64 t2, .slice a2 e2.length c2] 30) = w1 at *
  obtain ⟨p3, hp3⟩ : ∃ p, p = w.heap.size := ⟨_, rfl⟩
  obtain ⟨p4, hp4⟩ : ∃ p, p = w.heap.size + 1 := ⟨_, rfl⟩
  rw [← hp4, ← hp3] at HA ⊢
  have HQ := hid_mk (show w.heap.size ≤ p3 ∧ w.heap.size ≤ p4 ∧ p3 ≠ p4 by omega)
  clear hp3 hp4
  obtain ⟨u0, u1, u2⟩ := HA.out.1.cells
  go_wp2_with fail
  clear u0 u1 u2
  rw [← HVa.out.1]
  refine (HW1 w1 HA.out.2.2).mono ?_
  rintro e w2 ⟨rfl, hg⟩
  have hk := HA.out.1.kept hg (row := none) (by simp)
  obtain ⟨s1, s2⟩ := hk.put B1 T1 (.slice xa1 n1 xc1)
  have H2 := hid_mk (And.intro s1 (And.intro ((HA.out.2.1.kept hg (row := none) (by simp)).kept s2 (by have := HQ.out; simp; omega)) (grown_new (grown_trans HA.out.2.2 hg) s2 HQ.out.1)))
  obtain ⟨u0, u1, u2⟩ := hk.cells
  have z0 := hk.frozen (i := 0)
  have z1 := hk.frozen (i := 1)
  have z2 := hk.frozen (i := 2)
  clear hg hk s1 s2 HW1
  rw [HV1.out]
  go_upto_region 2 with fail
  clear u0 u1 u2 z0 z1 z2
  generalize ((w2.setCell ⟨p3, 0, none⟩ (.int .i64 B1)).setCell ⟨p3, 1, none⟩ (.int .i64 T1)).setCell ⟨p3, 2, none⟩ (.slice xa1 n1 xc1) = w3 at *
  obtain ⟨u0, u1, u2⟩ := H2.out.2.1.cells
  go_wp2_with fail
  clear u0 u1 u2
  rw [← HVa.out.2]
  refine (HW2 w3 H2.out.2.2).mono ?_
  rintro e w4 ⟨rfl, hg⟩
  have hk := H2.out.2.1.kept hg (row := none) (by simp)
  obtain ⟨s1, s2⟩ := hk.put B2 T2 (.slice xa2 n2 xc2)
  have H5 := hid_mk (And.intro ((H2.out.1.kept hg (row := none) (by simp)).kept s2 (by have := HQ.out; simp; omega)) (And.intro s1 (grown_new (grown_trans H2.out.2.2 hg) s2 HQ.out.2.1)))
  obtain ⟨u0, u1, u2⟩ := hk.cells
  have z0 := hk.frozen (i := 0)
  have z1 := hk.frozen (i := 1)
  have z2 := hk.frozen (i := 2)
  clear hg hk s1 s2 HW2
  rw [HV2.out]
  go_upto_region 4 with fail
  clear u0 u1 u2 z0 z1 z2
  generalize ((w4.setCell ⟨p4, 0, none⟩ (.int .i64 B2)).setCell ⟨p4, 1, none⟩ (.int .i64 T2)).setCell ⟨p4, 2, none⟩ (.slice xa2 n2 xc2) = w5 at *
  clear H2 HA
  go_wp2_with fail
  go_loopw [5, 6] (fun nv iv wr => ∃ (k : Nat), k ≤ n1 ∧ nv = .int .i64 (lastZ (Z.take (k - D)) (c + 1) 0) ∧ iv = .int .i64 k ∧ Hid (w.grownBy wr none ∧ w5.grownBy wr none)) (fun _ iv _ => n1 - (intOf iv).toNat)
  case atStart => exact ⟨0, Nat.zero_le _, by simp [lastZ], rfl, hid_mk ⟨H5.out.2.2, grown_refl _ _⟩⟩
  case round =>
    obtain ⟨k, hk, rfl, rfl, H⟩ := hrel
    rename World => wr
    have hn4 := HE1.out.2.2.1
    by_cases hkn : k < n1
    · have hkn' : (k : Int) < n1 := by omega
      have hk4 : (k : Int) < 5000 := by omega
      obtain ⟨hB10, hB11⟩ := HE1.out.2.2.2.1
      obtain ⟨x, hx⟩ : ∃ x, E1[k]? = some x := ⟨E1[k]'(by rw [← HE1.out.2.1]; exact hkn), List.getElem?_eq_getElem _⟩
      have hxi := (goB_at E1 HE1.out.2.2.2.2 k x hx).1
      rw [show B1 + 1 + (k : Int) = B1 + 1 + k from rfl] at hxi
      obtain ⟨LS1, LS2⟩ := lastStep (B2 := B2) (E2 := E2) hx HZ.out.2.2
      rw [← HZ.out.2.1] at LS1 LS2
      rw [← HZ.out.1] at LS2
      have HLS := hid_mk (And.intro LS1 LS2)
      obtain ⟨eb, eo, hae, -, hcs⟩ := (EntsR.at (es := E1) (by have h := HE1.out.1; exact h) (by rw [← HE1.out.2.1]; omega))
      obtain ⟨dv, g0, g1, -, -, -, -⟩ := hcs k x hx
      subst hae
      have g0 := H.out.1.cell g0 (by simp)
      have g1 := H.out.1.cell g1 (by simp)
      rw [hxi] at g1
      have HCL : ∀ W, wr.grownBy W none → (W.cell? ⟨p3, 0, none⟩ = some (.int .i64 B1) ∧ W.cell? ⟨p3, 1, none⟩ = some (.int .i64 T1) ∧ W.cell? ⟨p3, 2, none⟩ = some (.slice (some ⟨eb, eo, none⟩) n1 xc1)) ∧ (W.cell? ⟨p4, 0, none⟩ = some (.int .i64 B2) ∧ W.cell? ⟨p4, 1, none⟩ = some (.int .i64 T2) ∧ W.cell? ⟨p4, 2, none⟩ = some (.slice xa2 n2 xc2)) ∧ W.cell? ⟨eb, eo + k * 4, none⟩ = some (.int .i64 x.term) ∧ W.cell? ⟨eb, eo + k * 4 + 1, none⟩ = some (.int .i64 (B1 + 1 + k)) := fun W hW => ⟨(H5.out.1.kept (grown_trans H.out.2 hW) (by simp)).cells, (H5.out.2.1.kept (grown_trans H.out.2 hW) (by simp)).cells, hW.cell g0 (by simp), hW.cell g1 (by simp)⟩
      clear hx hcs LS1 LS2 g0 g1
      have HXI := hid_mk hxi
      clear hxi
      obtain ⟨⟨u0, u1, u2⟩, -, -, -⟩ := HCL wr (grown_refl wr none)
      go_upto_region 7 with fail
      clear u0 u1 u2
      have HX0 := hid_mk (show BS wr wr #[.int .i64 0, .int .i64 0, .int .i64 0, .slice none 0 0] 55 none from ⟨grown_refl _ _, fun q e => by cases e⟩)
      go_cut [7, 8] (fun s7 s8 wx => ∃ (q9 : Nat) (y : Ent) (dv : Value), s7 = .pointer (some ⟨q9, 0, none⟩) ∧ s8 = .bool (atB B2 E2 (B1 + 1 + k)) ∧ Hid (wr.grownBy wx none ∧ EB wx q9 y dv ∧ (atB B2 E2 (B1 + 1 + k) = true → E2[(B1 + 1 + k - B2 - 1).toNat]? = some y)))
      case first =>
        refine wp_region_fork (X := fun _ _ _ => False) [(0, true), (1, true), (2, true), (3, true), (4, true), (5, true), (6, true)] 7 #[true, true, true, true, true, true, true, false, false, false, false, false, false, false] (cl wr wr) (by kernel_rfl) (by kernel_rfl) rfl (by kernel_rfl) (fun _ _ _ h => h.elim) (shut_at0 (fun mm => grown_drewN _ mm _)) ⟨1, rfl⟩ ?_
        iterate 7 (refine mix_rd1X rfl rfl (fun K hK => ?_); apply Exists.intro; refine ⟨fun W hW => ?_, ?_⟩; (obtain ⟨⟨c0, c1, c2⟩, ⟨d0, d1, d2⟩, i0, i1⟩ := HCL W hW; go_simp; rfl); (go_simp; refine hK _ _ ?_; clear hK K))
        refine mix_nilX ?_
        refine fork2 7 11 (by kernel_rfl) ?_ ?_
        · refine bs_call HX0.out 31 #[viewV B2 T2 (.slice xa2 n2 xc2), .int .i64 (B1 + 1 + k)] (fun v W1 W' => ∃ y dv, v = .tuple #[entV y dv, .bool (atB B2 E2 (B1 + 1 + k))] ∧ (∃ da n dc, dv = .slice da n dc) ∧ (atB B2 E2 (B1 + 1 + k) = true → E2[(B1 + 1 + k - B2 - 1).toNat]? = some y)) rfl rfl (fun W => by rw [HV2.out]; go_simp) (fun W1 hW1 => (at_any B2 T2 (B1 + 1 + k) _ E2 W1 (HE2.out.1.kept (grown_trans H.out.1 (grown_trans HX0.out.gr hW1))) HE2.out.2.1 HE2.out.2.2 ⟨by omega, by omega⟩).mono (by
            rintro e W' ⟨y, dv, rfl, hby, hbl, hy, hg⟩
            obtain ⟨da, dc, hdv⟩ := hby.len
            exact ⟨_, rfl, ⟨y, dv, rfl, ⟨da, _, dc, hdv⟩, hy⟩, hg⟩)) ?_
          intro K hK v W1 Wc H3
          obtain ⟨hbs3, hg1, hg2, y, dv, hv, ⟨da, dn, dc, hdv⟩, hy⟩ := H3.out
          subst hv
          subst hdv
          have HBC := hid_mk hbs3
          have HY := hid_mk hy
          clear hbs3 hg1 hg2 hy H3
          unfold entV
          go_simp
          refine hK _ _ ?_
          clear hK K
          refine reads_first (by kernel_rfl) [(8, true), (9, true), (10, true)] 3 6 rfl _ #[true, true, true, true, true, true, true, true, true, true, true, false, false, false] (by kernel_rfl) ?_
          iterate 3 (refine mix_rd1X rfl rfl (fun K hK => ?_); apply Exists.intro; refine ⟨fun W hW => ?_, ?_⟩; (go_simp; rfl); (go_simp; refine hK _ _ ?_; clear hK K))
          refine mix_nilX ?_
          refine fork1 11 (by kernel_rfl) ?_
          refine bs_box #[.int .i64 0, .int .i64 0, .int .i64 0, .slice none 0 0] HBC.out rfl rfl (fun W => by go_simp) ?_
          intro K hK q9 Wb HB4
          have HBB := hid_mk HB4.out.1
          go_simp
          refine hK _ _ ?_
          clear hK K
          refine fork1 12 (by kernel_rfl) ?_
          refine bs_store q9 HBB.out #[.int .i64 y.term, .int .i64 y.index, .int .i64 y.kind, .slice da dn dc] (fun W => (((W.setCell ⟨q9, 0, none⟩ (.int .i64 y.term)).setCell ⟨q9, 1, none⟩ (.int .i64 y.index)).setCell ⟨q9, 2, none⟩ (.int .i64 y.kind)).setCell ⟨q9, 3, none⟩ (.slice da dn dc)) (fun W hb => ent_put hb y _) rfl rfl (fun W hb => by
            have e0 : W.cell? ⟨q9, 0, none⟩ = some (.int .i64 0) := hb.cell 0
            have e1 : W.cell? ⟨q9, 1, none⟩ = some (.int .i64 0) := hb.cell 1
            have e2 : W.cell? ⟨q9, 2, none⟩ = some (.int .i64 0) := hb.cell 2
            have e3 : W.cell? ⟨q9, 3, none⟩ = some (.slice none 0 0) := hb.cell 3
            have ef := fun j => hb.frozen j
            first | (left; go_simp; done) | (right; apply Exists.intro; go_simp; rfl) | (right; apply Exists.intro; go_simp)) rfl ?_
          intro K hK Ws HS
          refine hK _ _ ?_
          clear hK K
          refine reads_first (by kernel_rfl) [(13, true)] 0 1 rfl _ #[true, true, true, true, true, true, true, true, true, true, true, true, true, true] (by kernel_rfl) ?_
          (refine mix_rd1X rfl rfl (fun K hK => ?_); apply Exists.intro; refine ⟨fun W hW => ?_, ?_⟩; (go_simp; rfl); (go_simp; refine hK _ _ ?_; clear hK K))
          refine mix_nilX ?_
          refine fork_end (by kernel_rfl) ?_
          rintro Wz ⟨mz, rfl⟩
          go_wp2_with fail
          go_meet
          case rel => exact ⟨q9, y, .slice da dn dc, rfl, rfl, hid_mk ⟨grown_trans HS.out.1 (grown_drewN Ws mz none), EB.kept (show EB Ws q9 y _ from HS.out.2.2.1) (grown_drewN Ws mz none), HY.out⟩⟩
        · refine bs_box #[.int .i64 0, .int .i64 0, .int .i64 0, .slice none 0 0] HX0.out rfl rfl (fun W => by go_simp) ?_
          intro K hK q9 Wb HB4
          have HBB := hid_mk HB4.out.1
          go_simp
          refine hK _ _ ?_
          clear hK K
          refine fork1 7 (by kernel_rfl) ?_
          refine bs_call HBB.out 31 #[viewV B2 T2 (.slice xa2 n2 xc2), .int .i64 (B1 + 1 + k)] (fun v W1 W' => ∃ y dv, v = .tuple #[entV y dv, .bool (atB B2 E2 (B1 + 1 + k))] ∧ (∃ da n dc, dv = .slice da n dc) ∧ (atB B2 E2 (B1 + 1 + k) = true → E2[(B1 + 1 + k - B2 - 1).toNat]? = some y)) rfl rfl (fun W => by rw [HV2.out]; go_simp) (fun W1 hW1 => (at_any B2 T2 (B1 + 1 + k) _ E2 W1 (HE2.out.1.kept (grown_trans H.out.1 (grown_trans HBB.out.gr hW1))) HE2.out.2.1 HE2.out.2.2 ⟨by omega, by omega⟩).mono (by
            rintro e W' ⟨y, dv, rfl, hby, hbl, hy, hg⟩
            obtain ⟨da, dc, hdv⟩ := hby.len
            exact ⟨_, rfl, ⟨y, dv, rfl, ⟨da, _, dc, hdv⟩, hy⟩, hg⟩)) ?_
          intro K hK v W1 Wc H3
          obtain ⟨hbs3, hg1, hg2, y, dv, hv, ⟨da, dn, dc, hdv⟩, hy⟩ := H3.out
          subst hv
          subst hdv
          have HBC := hid_mk hbs3
          have HY := hid_mk hy
          clear hbs3 hg1 hg2 hy H3
          unfold entV
          go_simp
          refine hK _ _ ?_
          clear hK K
          refine reads_first (by kernel_rfl) [(8, true), (9, true), (10, true)] 2 5 rfl _ #[true, true, true, true, true, true, true, true, true, true, true, true, false, false] (by kernel_rfl) ?_
          iterate 3 (refine mix_rd1X rfl rfl (fun K hK => ?_); apply Exists.intro; refine ⟨fun W hW => ?_, ?_⟩; (go_simp; rfl); (go_simp; refine hK _ _ ?_; clear hK K))
          refine mix_nilX ?_
          refine fork1 12 (by kernel_rfl) ?_
          refine bs_store q9 HBC.out #[.int .i64 y.term, .int .i64 y.index, .int .i64 y.kind, .slice da dn dc] (fun W => (((W.setCell ⟨q9, 0, none⟩ (.int .i64 y.term)).setCell ⟨q9, 1, none⟩ (.int .i64 y.index)).setCell ⟨q9, 2, none⟩ (.int .i64 y.kind)).setCell ⟨q9, 3, none⟩ (.slice da dn dc)) (fun W hb => ent_put hb y _) rfl rfl (fun W hb => by
            have e0 : W.cell? ⟨q9, 0, none⟩ = some (.int .i64 0) := hb.cell 0
            have e1 : W.cell? ⟨q9, 1, none⟩ = some (.int .i64 0) := hb.cell 1
            have e2 : W.cell? ⟨q9, 2, none⟩ = some (.int .i64 0) := hb.cell 2
            have e3 : W.cell? ⟨q9, 3, none⟩ = some (.slice none 0 0) := hb.cell 3
            have ef := fun j => hb.frozen j
            first | (left; go_simp; done) | (right; apply Exists.intro; go_simp; rfl) | (right; apply Exists.intro; go_simp)) rfl ?_
          intro K hK Ws HS
          refine hK _ _ ?_
          clear hK K
          refine reads_first (by kernel_rfl) [(13, true)] 0 1 rfl _ #[true, true, true, true, true, true, true, true, true, true, true, true, true, true] (by kernel_rfl) ?_
          (refine mix_rd1X rfl rfl (fun K hK => ?_); apply Exists.intro; refine ⟨fun W hW => ?_, ?_⟩; (go_simp; rfl); (go_simp; refine hK _ _ ?_; clear hK K))
          refine mix_nilX ?_
          refine fork_end (by kernel_rfl) ?_
          rintro Wz ⟨mz, rfl⟩
          go_wp2_with fail
          go_meet
          case rel => exact ⟨q9, y, .slice da dn dc, rfl, rfl, hid_mk ⟨grown_trans HS.out.1 (grown_drewN Ws mz none), EB.kept (show EB Ws q9 y _ from HS.out.2.2.1) (grown_drewN Ws mz none), HY.out⟩⟩

      case rest =>
        obtain ⟨q9, y, dv, rfl, rfl, H8⟩ := hcut
        clear HX0
        rename World => w8
        obtain ⟨y0, y1, y2, y3, _⟩ := H8.out.2.1.cells
        have HCL8 : ∀ W, w8.grownBy W none → (W.cell? ⟨p3, 0, none⟩ = some (.int .i64 B1) ∧ W.cell? ⟨p3, 1, none⟩ = some (.int .i64 T1) ∧ W.cell? ⟨p3, 2, none⟩ = some (.slice (some ⟨eb, eo, none⟩) n1 xc1)) ∧ W.cell? ⟨eb, eo + k * 4, none⟩ = some (.int .i64 x.term) ∧ W.cell? ⟨eb, eo + k * 4 + 1, none⟩ = some (.int .i64 (B1 + 1 + k)) ∧ W.cell? ⟨q9, 0, none⟩ = some (.int .i64 y.term) := fun W hW => by
          obtain ⟨x1, -, x2, x3⟩ := HCL W (grown_trans H8.out.1 hW)
          exact ⟨x1, x2, x3, hW.cell y0 (by simp)⟩
        clear y0 y1 y2 y3
        go_upto_region 8 with fail
        rcases Bool.eq_false_or_eq_true (atB B2 E2 (B1 + 1 + k)) with hat | hat
        rotate_left
        · have HL := hid_mk (HLS.out.1 hat)
          rw [hat]
          refine wp_region_mix [(0, true), (1, true), (2, true), (3, true), (4, true), (5, true), (6, true), (7, true), (8, true), (9, true), (10, true), (11, true)] (at0 w8 (fun W => w8.grownBy W none)) (by kernel_rfl) (by kernel_rfl) rfl (by kernel_rfl) (shut_at0 (fun m => grown_drewN _ m none)) ⟨1, rfl⟩ ?_
          repeat (first | (refine mix_rd1 rfl rfl (fun K hK => ?_); apply Exists.intro; refine ⟨fun W hW => ?_, ?_⟩; (obtain ⟨⟨c0, c1, c2⟩, i0, i1, y0⟩ := HCL8 W hW; go_simp; rfl); (go_simp; refine hK _ _ ?_; clear hK K)) | (refine mix_no1 rfl rfl (fun K hK => ?_); go_simp; refine hK _ _ ?_; clear hK K))
          refine mix_nil ?_
          rintro W ⟨mB, rfl⟩
          have HB := hid_mk (show wr.grownBy (w8.drewN mB) none from grown_trans H8.out.1 (grown_drewN w8 mB none))
          generalize w8.drewN mB = w9 at *
          obtain ⟨⟨u0, u1, u2⟩, -, g0, g1⟩ := HCL w9 HB.out
          clear HCL HCL8
          go_wp2_with fail
          go_roundw
          case rel => exact ⟨k + 1, by omega, by rw [HL.out], by first | rfl | (congr 1; done) | (congr 1; omega), hid_mk ⟨grown_trans H.out.1 HB.out, grown_trans H.out.2 HB.out⟩⟩
          case measure => simp [intOf]; omega
        · have hyy := H8.out.2.2 hat
          obtain ⟨hDk, hzk, hci⟩ := HLS.out.2 y hat hyy
          rcases Bool.eq_false_or_eq_true (y.term == x.term) with hs | hs
          · have HL := hid_mk (show lastZ (Z.take (k + 1 - D)) (c + 1) 0 = B1 + 1 + k from by rw [show k + 1 - D = k - D + 1 by omega, lastZ_yes hzk (show (x.term == y.term) = true by rw [Bool.beq_comm]; exact hs)]; exact hci)
            rw [hat]
            clear hyy hDk hzk hci
            refine wp_region_mix [(0, true), (1, true), (2, true), (3, true), (4, true), (5, true), (6, true), (7, true), (8, true), (9, true), (10, true), (11, true)] (at0 w8 (fun W => w8.grownBy W none)) (by kernel_rfl) (by kernel_rfl) rfl (by kernel_rfl) (shut_at0 (fun m => grown_drewN _ m none)) ⟨1, rfl⟩ ?_
            repeat (first | (refine mix_rd1 rfl rfl (fun K hK => ?_); apply Exists.intro; refine ⟨fun W hW => ?_, ?_⟩; (obtain ⟨⟨c0, c1, c2⟩, i0, i1, y0⟩ := HCL8 W hW; go_simp; rfl); (go_simp; refine hK _ _ ?_; clear hK K)) | (refine mix_no1 rfl rfl (fun K hK => ?_); go_simp; refine hK _ _ ?_; clear hK K))
            refine mix_nil ?_
            rintro W ⟨mB, rfl⟩
            have HB := hid_mk (show wr.grownBy (w8.drewN mB) none from grown_trans H8.out.1 (grown_drewN w8 mB none))
            generalize w8.drewN mB = w9 at *
            obtain ⟨⟨u0, u1, u2⟩, -, g0, g1⟩ := HCL w9 HB.out
            clear HCL HCL8
            go_wp2_with fail
            go_roundw
            case rel => exact ⟨k + 1, by omega, by rw [HL.out], by first | rfl | (congr 1; done) | (congr 1; omega), hid_mk ⟨grown_trans H.out.1 HB.out, grown_trans H.out.2 HB.out⟩⟩
            case measure => simp [intOf]; omega
          · have HL := hid_mk (show lastZ (Z.take (k + 1 - D)) (c + 1) 0 = lastZ (Z.take (k - D)) (c + 1) 0 from by rw [show k + 1 - D = k - D + 1 by omega, lastZ_no hzk (show (x.term == y.term) = false by rw [Bool.beq_comm]; exact hs)])
            rw [hat]
            clear hyy hDk hzk hci
            refine wp_region_mix [(0, true), (1, true), (2, true), (3, true), (4, true), (5, true), (6, true), (7, true), (8, true), (9, true), (10, true), (11, true)] (at0 w8 (fun W => w8.grownBy W none)) (by kernel_rfl) (by kernel_rfl) rfl (by kernel_rfl) (shut_at0 (fun m => grown_drewN _ m none)) ⟨1, rfl⟩ ?_
            repeat (first | (refine mix_rd1 rfl rfl (fun K hK => ?_); apply Exists.intro; refine ⟨fun W hW => ?_, ?_⟩; (obtain ⟨⟨c0, c1, c2⟩, i0, i1, y0⟩ := HCL8 W hW; go_simp; rfl); (go_simp; refine hK _ _ ?_; clear hK K)) | (refine mix_no1 rfl rfl (fun K hK => ?_); go_simp; refine hK _ _ ?_; clear hK K))
            refine mix_nil ?_
            rintro W ⟨mB, rfl⟩
            have HB := hid_mk (show wr.grownBy (w8.drewN mB) none from grown_trans H8.out.1 (grown_drewN w8 mB none))
            generalize w8.drewN mB = w9 at *
            obtain ⟨⟨u0, u1, u2⟩, -, g0, g1⟩ := HCL w9 HB.out
            clear HCL HCL8
            go_wp2_with fail
            go_roundw
            case rel => exact ⟨k + 1, by omega, by rw [HL.out], by first | rfl | (congr 1; done) | (congr 1; omega), hid_mk ⟨grown_trans H.out.1 HB.out, grown_trans H.out.2 HB.out⟩⟩
            case measure => simp [intOf]; omega
    · have hkn' : ¬ (k : Int) < n1 := by omega
      have hke : k = n1 := by omega
      have HT := hid_mk (show Z.take (k - D) = Z from by
        refine List.take_of_length_le ?_
        rw [HZ.out.2.1, HZ.out.2.2, hke, HE1.out.2.1]
        unfold pairs
        rw [List.length_zip, List.length_drop]
        omega)
      rw [HT.out]
      have hto : lastZ Z (c + 1) 0 ≤ baseC B1 B2 + (pairs B1 E1 B2 E2).length := by
        rw [← HZ.out.1, ← HZ.out.2.1]
        have hc0 : 0 ≤ c := by rw [HZ.out.1]; unfold baseC; have := HE1.out.2.2.2.1; omega
        rcases lastZ_in Z (c + 1) 0 with h | h
        · omega
        · omega
      have HTO := hid_mk hto
      clear hto hke
      obtain ⟨u0, u1, u2⟩ := (H5.out.1.kept H.out.2 (by simp)).cells
      obtain ⟨d0, d1, d2⟩ := (H5.out.2.1.kept H.out.2 (by simp)).cells
      go_wp2_with fail
      clear u0 u1 u2 d0 d1 d2
      rw [← HV1.out, ← HV2.out]
      refine (rdiffer_any B1 T1 _ E1 B2 T2 _ E2 _ wr (HE1.out.1.kept H.out.1) (HE2.out.1.kept H.out.1) (by rw [← HE1.out.2.1]; exact HE1.out.2.2.1) HE2.out.2.1 HE1.out.2.2.2.1 HE2.out.2.2 HTO.out).mono ?_
      rintro e w9 ⟨rfl, hg⟩
      rw [← HZ.out.1, ← HZ.out.2.1]
      have HG := hid_mk (grown_trans H.out.1 hg)
      clear hg
      go_wp2_with fail
      go_ret
      exact ⟨rfl, HG.out⟩
end Go.Proofs.Ytcijjepleedecaa.W
