/- watch: commonTo. -/
import Derived.Test.YtcijjepleedecaaWaA
import Derived.Test.YtcijjepleedecaaWaX
namespace Go.Proofs.Ytcijjepleedecaa.W
open Go.RowKit Go.Maps
set_option linter.unusedVariables false
set_option linter.unusedSimpArgs false
set_option maxRecDepth 100000
attribute [local go_sem] Oper.semAt_some

/-- What two views have in common, as the program holds it. -/
def comV (c : Int) (av bv : Value) : Value := .agg #[.int .i64 c, av, bv]
theorem VB.drewN {W : World} {g : Nat} {b t : Int} {lv : Value} (h : VB W g b t lv) (m : Nat) : VB (W.drewN m) g b t lv := h
theorem com_load (w : World) (b : Nat) (c0 c1 c2 : Value) (h0 : w.cell? ⟨b, 0, none⟩ = some c0) (h1 : w.cell? ⟨b, 1, none⟩ = some c1) (h2 : w.cell? ⟨b, 2, none⟩ = some c2) : (loadVar 61 ⟨b, 0, none⟩).run Try.prog w = .ok (.agg #[c0, c1, c2]) w := by
  simp [go_sem, h0, h1, h2]
theorem ret_com {fn : Func} {p : Tmp} (h : fn.results = #[.cell p 61]) (tmps : Array Value) (w : World) (g : Nat) (z x y : Value) (hp : tmps.getD p undef = .pointer (some ⟨g, 0, none⟩)) (hb : Blk w g #[z, x, y] 61) : (results fn tmps).run Try.prog w = .ok (.agg #[z, x, y]) w := by
  have ha : (asAddr (.pointer (some ⟨g, 0, none⟩))).run Try.prog w = .ok ⟨g, 0, none⟩ w := by simp [asAddr]
  rw [results_cell1 h, hp, ha]
  simp only [Result.andThen]
  rw [com_load w g z x y (hb.cell 0) (hb.cell 1) (hb.cell 2)]
theorem Blk.put3 {W : World} {g : Nat} {a b c : Value} {t : TypeId} (h : Blk W g #[a, b, c] t) (x y z : Value) :
    Blk (((W.setCell ⟨g, 0, none⟩ x).setCell ⟨g, 1, none⟩ y).setCell ⟨g, 2, none⟩ z) g #[x, y, z] t ∧ W.grownBy (((W.setCell ⟨g, 0, none⟩ x).setCell ⟨g, 1, none⟩ y).setCell ⟨g, 2, none⟩ z) (some g) := by
  have h' : W.heap[g]? = _ := h
  refine ⟨?_, grown_trans (grown_trans (grown_setCell _ _ _ _) (grown_setCell _ _ _ _)) (grown_setCell _ _ _ _)⟩
  unfold Blk
  simp [World.setCell, Array.getElem?_modify, h']
theorem zip_min (a b : List Ent) : (a.take (min a.length b.length)).zip (b.take (min a.length b.length)) = a.zip b := by
  exact List.zip_eq_zip_take_min.symm
theorem load_view (w : World) (g : Nat) (b t : Int) (lv : Value) (h : VB w g b t lv) : (loadVar 26 ⟨g, 0, none⟩).run Try.prog w = .ok (viewV b t lv) w := by
  obtain ⟨c0, c1, c2⟩ := h.cells
  rw [load25 w g _ _ _ c0 c1 c2]; rfl

set_option maxHeartbeats 4000000 in
theorem commonTo_any (b1 t1 : Int) (v1 : Value) (e1 : List Ent) (b2 t2 : Int) (v2 : Value) (e2 : List Ent) (w : World) (h1 : EntsR w v1 e1) (h2 : EntsR w v2 e2) (l1 : e1.length ≤ 10000000000000) (l2 : e2.length ≤ 10000000000000) (i1 : I64 b1) (i2 : I64 b2) :
    Calls Try.prog 25 #[viewV b1 t1 v1, viewV b2 t2 v2] w fun e w' => ∃ x y xs ys, e = .returned (comV (baseC (whB b1 t1 e1) (whB b2 t2 e2)) x y) ∧ EntsR w' x xs ∧ EntsR w' y ys ∧ xs.length = ys.length ∧ xs.length ≤ 4096 ∧ xs.zip ys = pairs (whB b1 t1 e1) (whE b1 t1 e1) (whB b2 t2 e2) (whE b2 t2 e2) ∧ w.grownBy w' none := by
  have HE := hid_mk (And.intro h1 h2)
  clear h1 h2
  have HA := hid_mk (show VB (((w.alloc (.cells #[.int .i64 b1, .int .i64 t1, v1] 26)).alloc (.cells #[.int .i64 b2, .int .i64 t2, v2] 26)).alloc (.cells #[.int .i64 0, .slice none 0 0, .slice none 0 0] 61)) w.heap.size b1 t1 v1 ∧ VB (((w.alloc (.cells #[.int .i64 b1, .int .i64 t1, v1] 26)).alloc (.cells #[.int .i64 b2, .int .i64 t2, v2] 26)).alloc (.cells #[.int .i64 0, .slice none 0 0, .slice none 0 0] 61)) (w.heap.size + 1) b2 t2 v2 ∧ Blk (((w.alloc (.cells #[.int .i64 b1, .int .i64 t1, v1] 26)).alloc (.cells #[.int .i64 b2, .int .i64 t2, v2] 26)).alloc (.cells #[.int .i64 0, .slice none 0 0, .slice none 0 0] 61)) (w.heap.size + 2) #[.int .i64 0, .slice none 0 0, .slice none 0 0] 61 ∧ w.grownBy (((w.alloc (.cells #[.int .i64 b1, .int .i64 t1, v1] 26)).alloc (.cells #[.int .i64 b2, .int .i64 t2, v2] 26)).alloc (.cells #[.int .i64 0, .slice none 0 0, .slice none 0 0] 61)) none from by
    have h1 := VB.new w b1 t1 v1
    have h2 := VB.new (w.alloc (.cells #[.int .i64 b1, .int .i64 t1, v1] 26)) b2 t2 v2
    rw [World.size_alloc] at h2
    have h3 := heap_alloc_new ((w.alloc (.cells #[.int .i64 b1, .int .i64 t1, v1] 26)).alloc (.cells #[.int .i64 b2, .int .i64 t2, v2] 26)) (.cells #[.int .i64 0, .slice none 0 0, .slice none 0 0] 61)
    simp only [World.size_alloc] at h3
    have g1 := World.grownBy_alloc w (.cells #[.int .i64 b1, .int .i64 t1, v1] 26) none
    have g2 := World.grownBy_alloc (w.alloc (.cells #[.int .i64 b1, .int .i64 t1, v1] 26)) (.cells #[.int .i64 b2, .int .i64 t2, v2] 26) none
    have g3 := World.grownBy_alloc ((w.alloc (.cells #[.int .i64 b1, .int .i64 t1, v1] 26)).alloc (.cells #[.int .i64 b2, .int .i64 t2, v2] 26)) (.cells #[.int .i64 0, .slice none 0 0, .slice none 0 0] 61) none
    exact ⟨(h1.kept g2 (by simp)).kept g3 (by simp), h2.kept g3 (by simp), h3, grown_trans g1 (grown_trans g2 g3)⟩)
  obtain ⟨B1, hB1⟩ : ∃ B, B = whB b1 t1 e1 := ⟨_, rfl⟩
  obtain ⟨T1, hT1⟩ : ∃ B, B = whT b1 t1 e1 := ⟨_, rfl⟩
  obtain ⟨E1, hE1⟩ : ∃ B, B = whE b1 t1 e1 := ⟨_, rfl⟩
  obtain ⟨X1, hXe1⟩ : ∃ B, B = whV b1 t1 e1 v1 := ⟨_, rfl⟩
  obtain ⟨B2, hB2⟩ : ∃ B, B = whB b2 t2 e2 := ⟨_, rfl⟩
  obtain ⟨T2, hT2⟩ : ∃ B, B = whT b2 t2 e2 := ⟨_, rfl⟩
  obtain ⟨E2, hE2⟩ : ∃ B, B = whE b2 t2 e2 := ⟨_, rfl⟩
  obtain ⟨X2, hXe2⟩ : ∃ B, B = whV b2 t2 e2 v2 := ⟨_, rfl⟩
  have HO1 : ∀ W, w.grownBy W none → Calls Try.prog 35 #[viewV b1 t1 v1] W fun e w' => e = .returned (viewV B1 T1 X1) ∧ W.grownBy w' none := fun W hW => by
    rw [hB1, hT1, hXe1]
    exact orEmpty_any b1 t1 v1 e1 W (HE.out.1.kept hW) l1 i1
  have HO2 : ∀ W, w.grownBy W none → Calls Try.prog 35 #[viewV b2 t2 v2] W fun e w' => e = .returned (viewV B2 T2 X2) ∧ W.grownBy w' none := fun W hW => by
    rw [hB2, hT2, hXe2]
    exact orEmpty_any b2 t2 v2 e2 W (HE.out.2.kept hW) l2 i2
  have HX := hid_mk (show EntsR w X1 E1 ∧ EntsR w X2 E2 from ⟨by rw [hXe1, hE1]; exact HE.out.1.wh, by rw [hXe2, hE2]; exact HE.out.2.wh⟩)
  rw [← hB1, ← hE1, ← hB2, ← hE2]
  obtain ⟨xa1, xc1, hz1⟩ := HX.out.1.len
  obtain ⟨xa2, xc2, hz2⟩ := HX.out.2.len
  clear hXe1 hXe2
  subst hz1
  subst hz2
  have HN := hid_mk (show 0 ≤ B1 ∧ B1 ≤ 549755813888 ∧ 0 ≤ B2 ∧ B2 ≤ 549755813888 ∧ E1.length ≤ 4096 ∧ E2.length ≤ 4096 from ⟨hB1 ▸ (wh_base b1 t1 e1).1, hB1 ▸ (wh_base b1 t1 e1).2, hB2 ▸ (wh_base b2 t2 e2).1, hB2 ▸ (wh_base b2 t2 e2).2, hE1 ▸ wh_len b1 t1 e1, hE2 ▸ wh_len b2 t2 e2⟩)
  have HV : Hid (viewV b1 t1 v1 = .agg #[.int .i64 b1, .int .i64 t1, v1] ∧ viewV b2 t2 v2 = .agg #[.int .i64 b2, .int .i64 t2, v2] ∧ viewV B1 T1 (.slice xa1 E1.length xc1) = .agg #[.int .i64 B1, .int .i64 T1, (.slice xa1 E1.length xc1)] ∧ viewV B2 T2 (.slice xa2 E2.length xc2) = .agg #[.int .i64 B2, .int .i64 T2, (.slice xa2 E2.length xc2)]) := hid_mk ⟨rfl, rfl, rfl, rfl⟩
  clear hB1 hT1 hE1 hB2 hT2 hE2 HE
  obtain ⟨C, hC⟩ : ∃ C, C = baseC B1 B2 := ⟨_, rfl⟩
  have hC1 : B1 ≤ C ∧ B2 ≤ C ∧ C ≤ 549755813888 ∧ 0 ≤ C := by have := HN.out; rw [hC]; unfold baseC; omega
  have HCC := hid_mk hC1
  have HC0 := hid_mk hC
  have HAB : ∀ W, w.grownBy W none → Calls Try.prog 45 #[.int .i64 C, viewV B1 T1 (.slice xa1 E1.length xc1)] W fun e w' => ∃ a c, e = .returned (.slice a (E1.drop (C - B1).toNat).length c) ∧ EntsR w (.slice a (E1.drop (C - B1).toNat).length c) (E1.drop (C - B1).toNat) ∧ W.grownBy w' none := fun W hW => above_any C B1 T1 _ E1 w W HX.out.1 HN.out.2.2.2.2.1 ⟨HN.out.1, hC1.1, hC1.2.2.1⟩
  have HAC : ∀ W, w.grownBy W none → Calls Try.prog 45 #[.int .i64 C, viewV B2 T2 (.slice xa2 E2.length xc2)] W fun e w' => ∃ a c, e = .returned (.slice a (E2.drop (C - B2).toNat).length c) ∧ EntsR w (.slice a (E2.drop (C - B2).toNat).length c) (E2.drop (C - B2).toNat) ∧ W.grownBy w' none := fun W hW => above_any C B2 T2 _ E2 w W HX.out.2 HN.out.2.2.2.2.2 ⟨HN.out.2.2.1, hC1.2.1, hC1.2.2.1⟩
  have hpr : pairs B1 E1 B2 E2 = (E1.drop (C - B1).toNat).zip (E2.drop (C - B2).toNat) := by unfold pairs; rw [← hC]
  rw [hpr]
  have hlx : (E1.drop (C - B1).toNat).length ≤ 4096 ∧ (E2.drop (C - B2).toNat).length ≤ 4096 := by have := HN.out; simp only [List.length_drop]; omega
  generalize E1.drop (C - B1).toNat = L1 at *
  generalize E2.drop (C - B2).toNat = L2 at *
  have hmx : (if B1 < B2 then B2 else B1) = C := by rw [hC]; unfold baseC; split <;> omega
  rw [← hC]
  have HLX := hid_mk hlx
  have HMX := hid_mk hmx
  clear hC1 hpr hlx hmx hC
  obtain ⟨q2, hq2⟩ : ∃ q, q = w.heap.size := ⟨_, rfl⟩
  obtain ⟨q3, hq3⟩ : ∃ q, q = w.heap.size + 1 := ⟨_, rfl⟩
  obtain ⟨q4, hq4⟩ : ∃ q, q = w.heap.size + 2 := ⟨_, rfl⟩
  unfold viewV
  go_enter Try.func25, Try.ntmps25
  go_upto_region 1 with fail
  generalize ((w.alloc (.cells #[.int .i64 b1, .int .i64 t1, v1] 26)).alloc (.cells #[.int .i64 b2, .int .i64 t2, v2] 26)).alloc (.cells #[.int .i64 0, .slice none 0 0, .slice none 0 0] 61) = w1 at *
  rw [← hq4, ← hq3, ← hq2] at HA
  rw [← hq4, ← hq3, ← hq2]
  have HQ := hid_mk (show w.heap.size ≤ q2 ∧ w.heap.size ≤ q3 ∧ w.heap.size ≤ q4 ∧ q2 ≠ q3 ∧ q2 ≠ q4 ∧ q3 ≠ q4 by omega)
  clear hq2 hq3 hq4
  have HR : ∀ (w3 : World), w1.grownBy w3 none → (VB (((w3.setCell ⟨q2, 0, none⟩ (.int .i64 B1)).setCell ⟨q2, 1, none⟩ (.int .i64 T1)).setCell ⟨q2, 2, none⟩ (.slice xa1 E1.length xc1)) q2 B1 T1 (.slice xa1 E1.length xc1) ∧ VB (((w3.setCell ⟨q2, 0, none⟩ (.int .i64 B1)).setCell ⟨q2, 1, none⟩ (.int .i64 T1)).setCell ⟨q2, 2, none⟩ (.slice xa1 E1.length xc1)) q3 b2 t2 v2 ∧ Blk (((w3.setCell ⟨q2, 0, none⟩ (.int .i64 B1)).setCell ⟨q2, 1, none⟩ (.int .i64 T1)).setCell ⟨q2, 2, none⟩ (.slice xa1 E1.length xc1)) q4 #[.int .i64 0, .slice none 0 0, .slice none 0 0] 61 ∧ w.grownBy (((w3.setCell ⟨q2, 0, none⟩ (.int .i64 B1)).setCell ⟨q2, 1, none⟩ (.int .i64 T1)).setCell ⟨q2, 2, none⟩ (.slice xa1 E1.length xc1)) none) := by
    intro w3 g
    have k2 := HA.out.1.kept g (by simp)
    have k3 := HA.out.2.1.kept g (by simp)
    have k4 := HA.out.2.2.1.kept g (by simp)
    obtain ⟨p1, p2⟩ := k2.put B1 T1 (.slice xa1 E1.length xc1)
    have hg : w.grownBy w3 none := grown_trans HA.out.2.2.2 g
    exact ⟨p1, k3.kept p2 (by have := HQ.out; simp; omega), k4.kept p2 (by have := HQ.out; simp; omega), grown_new hg p2 HQ.out.1⟩
  have HR2 : ∀ (w3 : World), VB w3 q2 B1 T1 (.slice xa1 E1.length xc1) ∧ VB w3 q3 b2 t2 v2 ∧ Blk w3 q4 #[.int .i64 0, .slice none 0 0, .slice none 0 0] 61 ∧ w.grownBy w3 none → (VB (((w3.setCell ⟨q3, 0, none⟩ (.int .i64 B2)).setCell ⟨q3, 1, none⟩ (.int .i64 T2)).setCell ⟨q3, 2, none⟩ (.slice xa2 E2.length xc2)) q2 B1 T1 (.slice xa1 E1.length xc1) ∧ VB (((w3.setCell ⟨q3, 0, none⟩ (.int .i64 B2)).setCell ⟨q3, 1, none⟩ (.int .i64 T2)).setCell ⟨q3, 2, none⟩ (.slice xa2 E2.length xc2)) q3 B2 T2 (.slice xa2 E2.length xc2) ∧ Blk (((w3.setCell ⟨q3, 0, none⟩ (.int .i64 B2)).setCell ⟨q3, 1, none⟩ (.int .i64 T2)).setCell ⟨q3, 2, none⟩ (.slice xa2 E2.length xc2)) q4 #[.int .i64 0, .slice none 0 0, .slice none 0 0] 61 ∧ w.grownBy (((w3.setCell ⟨q3, 0, none⟩ (.int .i64 B2)).setCell ⟨q3, 1, none⟩ (.int .i64 T2)).setCell ⟨q3, 2, none⟩ (.slice xa2 E2.length xc2)) none) := by
    intro w3 ⟨k2, k3, k4, hg⟩
    obtain ⟨p1, p2⟩ := k3.put B2 T2 (.slice xa2 E2.length xc2)
    exact ⟨k2.kept p2 (by have := HQ.out; simp; omega), p1, k4.kept p2 (by have := HQ.out; simp; omega), grown_new hg p2 HQ.out.2.1⟩
  have HF : ∀ W, w1.grownBy W none → (W.cell? ⟨q2, 0, none⟩ = some (.int .i64 b1) ∧ W.cell? ⟨q2, 1, none⟩ = some (.int .i64 t1) ∧ W.cell? ⟨q2, 2, none⟩ = some v1) ∧ (W.cell? ⟨q3, 0, none⟩ = some (.int .i64 b2) ∧ W.cell? ⟨q3, 1, none⟩ = some (.int .i64 t2) ∧ W.cell? ⟨q3, 2, none⟩ = some v2) := fun W hW => ⟨(HA.out.1.kept hW (by simp)).cells, (HA.out.2.1.kept hW (by simp)).cells⟩
  apply wp_region_tR 6 (by kernel_rfl) (by kernel_rfl) rfl (fun wF => VB wF q2 B1 T1 (.slice xa1 E1.length xc1) ∧ VB wF q3 B2 T2 (.slice xa2 E2.length xc2) ∧ Blk wF q4 #[.int .i64 0, .slice none 0 0, .slice none 0 0] 61 ∧ w.grownBy wF none)
  refine fork2 0 2 (by kernel_rfl) ?_ ?_
  · refine t_rd1 rfl rfl (fun K hK => ?_); apply Exists.intro; refine ⟨fun m => ?_, ?_⟩; (obtain ⟨⟨c0, c1, c2⟩, c3, c4, c5⟩ := HF _ ((fun m => grown_drewN w1 m none) m); go_simp; rfl); (go_simp; refine hK _ _ ?_; clear hK K)
    refine fork2 1 2 (by kernel_rfl) ?_ ?_
    · refine t_call rfl rfl 35 #[viewV b1 t1 v1] (fun W => by rw [HV.out.1]; go_simp) (fun m => (HO1 _ (grown_trans HA.out.2.2.2 ((fun m => grown_drewN w1 m none) m))).mono ?_)
      rintro e w2 ⟨rfl, hg⟩
      have G2 := hid_mk (show w1.grownBy w2 none from grown_trans ((fun m => grown_drewN w1 m none) m) hg)
      clear hg
      rw [HV.out.2.2.1]
      refine ⟨_, rfl, ?_⟩
      go_simp
      refine fork1 2 (by kernel_rfl) ?_
      refine t_rd1 rfl rfl (fun K hK => ?_); apply Exists.intro; refine ⟨fun m => ?_, ?_⟩; (obtain ⟨⟨c0, c1, c2⟩, c3, c4, c5⟩ := HF _ ((fun m => grown_trans G2.out (grown_drewN w2 m none)) m); go_simp; rfl); (go_simp; refine hK _ _ ?_; clear hK K)
      refine fork1 3 (by kernel_rfl) ?_
      refine t_call rfl rfl 35 #[viewV b2 t2 v2] (fun W => by rw [HV.out.2.1]; go_simp) (fun m => (HO2 _ (grown_trans HA.out.2.2.2 ((fun m => grown_trans G2.out (grown_drewN w2 m none)) m))).mono ?_)
      rintro e w3 ⟨rfl, hg⟩
      have G3 := hid_mk (show w1.grownBy w3 none from grown_trans ((fun m => grown_trans G2.out (grown_drewN w2 m none)) m) hg)
      clear hg
      rw [HV.out.2.2.2]
      refine ⟨_, rfl, ?_⟩
      go_simp
      refine fork1 4 (by kernel_rfl) ?_
      refine t_skip rfl rfl (fun m4 => ?_)
      have k4 := HR (w3.drewN m4) (grown_trans G3.out (grown_drewN w3 m4 none))
      obtain ⟨s0, s1, s2⟩ := (HA.out.1.kept (grown_trans G3.out (grown_drewN w3 m4 none)) (by simp)).cells
      have y0 := (HA.out.1.kept (grown_trans G3.out (grown_drewN w3 m4 none)) (by simp)).frozen (i := 0)
      have y1 := (HA.out.1.kept (grown_trans G3.out (grown_drewN w3 m4 none)) (by simp)).frozen (i := 1)
      have y2 := (HA.out.1.kept (grown_trans G3.out (grown_drewN w3 m4 none)) (by simp)).frozen (i := 2)
      refine ⟨_, by go_simp; rfl, ?_⟩
      have H4 := hid_mk k4
      clear k4 s0 s1 s2 y0 y1 y2
      generalize (((w3.drewN m4).setCell ⟨q2, 0, none⟩ (.int .i64 B1)).setCell ⟨q2, 1, none⟩ (.int .i64 T1)).setCell ⟨q2, 2, none⟩ (.slice xa1 E1.length xc1) = w4 at *
      refine fork1 5 (by kernel_rfl) ?_
      refine t_skip rfl rfl (fun m5 => ?_)
      have H4' := hid_mk (show VB (w4.drewN m5) q2 B1 T1 (.slice xa1 E1.length xc1) ∧ VB (w4.drewN m5) q3 b2 t2 v2 ∧ Blk (w4.drewN m5) q4 #[.int .i64 0, .slice none 0 0, .slice none 0 0] 61 ∧ w.grownBy (w4.drewN m5) none from ⟨H4.out.1, H4.out.2.1, H4.out.2.2.1, grown_trans H4.out.2.2.2 (grown_drewN w4 m5 none)⟩)
      have k5 := HR2 (w4.drewN m5) H4'.out
      obtain ⟨s0, s1, s2⟩ := H4'.out.2.1.cells
      have y0 := H4'.out.2.1.frozen (i := 0)
      have y1 := H4'.out.2.1.frozen (i := 1)
      have y2 := H4'.out.2.1.frozen (i := 2)
      refine ⟨_, by go_simp; rfl, ?_⟩
      have H5 := hid_mk k5
      clear k5 s0 s1 s2 y0 y1 y2
      generalize (((w4.drewN m5).setCell ⟨q3, 0, none⟩ (.int .i64 B2)).setCell ⟨q3, 1, none⟩ (.int .i64 T2)).setCell ⟨q3, 2, none⟩ (.slice xa2 E2.length xc2) = w5 at *
      refine fork_end (by kernel_rfl) ⟨rfl, ?_⟩
      rintro w' ⟨m6, rfl⟩
      exact ⟨H5.out.1, H5.out.2.1, H5.out.2.2.1, grown_trans H5.out.2.2.2 (grown_drewN w5 m6 none)⟩
    · refine t_rd1 rfl rfl (fun K hK => ?_); apply Exists.intro; refine ⟨fun m => ?_, ?_⟩; (obtain ⟨⟨c0, c1, c2⟩, c3, c4, c5⟩ := HF _ ((fun m => grown_drewN w1 m none) m); go_simp; rfl); (go_simp; refine hK _ _ ?_; clear hK K)
      refine fork1 1 (by kernel_rfl) ?_
      refine t_call rfl rfl 35 #[viewV b1 t1 v1] (fun W => by rw [HV.out.1]; go_simp) (fun m => (HO1 _ (grown_trans HA.out.2.2.2 ((fun m => grown_drewN w1 m none) m))).mono ?_)
      rintro e w2 ⟨rfl, hg⟩
      have G2 := hid_mk (show w1.grownBy w2 none from grown_trans ((fun m => grown_drewN w1 m none) m) hg)
      clear hg
      rw [HV.out.2.2.1]
      refine ⟨_, rfl, ?_⟩
      go_simp
      refine fork1 3 (by kernel_rfl) ?_
      refine t_call rfl rfl 35 #[viewV b2 t2 v2] (fun W => by rw [HV.out.2.1]; go_simp) (fun m => (HO2 _ (grown_trans HA.out.2.2.2 ((fun m => grown_trans G2.out (grown_drewN w2 m none)) m))).mono ?_)
      rintro e w3 ⟨rfl, hg⟩
      have G3 := hid_mk (show w1.grownBy w3 none from grown_trans ((fun m => grown_trans G2.out (grown_drewN w2 m none)) m) hg)
      clear hg
      rw [HV.out.2.2.2]
      refine ⟨_, rfl, ?_⟩
      go_simp
      refine fork1 4 (by kernel_rfl) ?_
      refine t_skip rfl rfl (fun m4 => ?_)
      have k4 := HR (w3.drewN m4) (grown_trans G3.out (grown_drewN w3 m4 none))
      obtain ⟨s0, s1, s2⟩ := (HA.out.1.kept (grown_trans G3.out (grown_drewN w3 m4 none)) (by simp)).cells
      have y0 := (HA.out.1.kept (grown_trans G3.out (grown_drewN w3 m4 none)) (by simp)).frozen (i := 0)
      have y1 := (HA.out.1.kept (grown_trans G3.out (grown_drewN w3 m4 none)) (by simp)).frozen (i := 1)
      have y2 := (HA.out.1.kept (grown_trans G3.out (grown_drewN w3 m4 none)) (by simp)).frozen (i := 2)
      refine ⟨_, by go_simp; rfl, ?_⟩
      have H4 := hid_mk k4
      clear k4 s0 s1 s2 y0 y1 y2
      generalize (((w3.drewN m4).setCell ⟨q2, 0, none⟩ (.int .i64 B1)).setCell ⟨q2, 1, none⟩ (.int .i64 T1)).setCell ⟨q2, 2, none⟩ (.slice xa1 E1.length xc1) = w4 at *
      refine fork1 5 (by kernel_rfl) ?_
      refine t_skip rfl rfl (fun m5 => ?_)
      have H4' := hid_mk (show VB (w4.drewN m5) q2 B1 T1 (.slice xa1 E1.length xc1) ∧ VB (w4.drewN m5) q3 b2 t2 v2 ∧ Blk (w4.drewN m5) q4 #[.int .i64 0, .slice none 0 0, .slice none 0 0] 61 ∧ w.grownBy (w4.drewN m5) none from ⟨H4.out.1, H4.out.2.1, H4.out.2.2.1, grown_trans H4.out.2.2.2 (grown_drewN w4 m5 none)⟩)
      have k5 := HR2 (w4.drewN m5) H4'.out
      obtain ⟨s0, s1, s2⟩ := H4'.out.2.1.cells
      have y0 := H4'.out.2.1.frozen (i := 0)
      have y1 := H4'.out.2.1.frozen (i := 1)
      have y2 := H4'.out.2.1.frozen (i := 2)
      refine ⟨_, by go_simp; rfl, ?_⟩
      have H5 := hid_mk k5
      clear k5 s0 s1 s2 y0 y1 y2
      generalize (((w4.drewN m5).setCell ⟨q3, 0, none⟩ (.int .i64 B2)).setCell ⟨q3, 1, none⟩ (.int .i64 T2)).setCell ⟨q3, 2, none⟩ (.slice xa2 E2.length xc2) = w5 at *
      refine fork_end (by kernel_rfl) ⟨rfl, ?_⟩
      rintro w' ⟨m6, rfl⟩
      exact ⟨H5.out.1, H5.out.2.1, H5.out.2.2.1, grown_trans H5.out.2.2.2 (grown_drewN w5 m6 none)⟩
  · refine t_rd1 rfl rfl (fun K hK => ?_); apply Exists.intro; refine ⟨fun m => ?_, ?_⟩; (obtain ⟨⟨c0, c1, c2⟩, c3, c4, c5⟩ := HF _ ((fun m => grown_drewN w1 m none) m); go_simp; rfl); (go_simp; refine hK _ _ ?_; clear hK K)
    refine fork1 0 (by kernel_rfl) ?_
    refine t_rd1 rfl rfl (fun K hK => ?_); apply Exists.intro; refine ⟨fun m => ?_, ?_⟩; (obtain ⟨⟨c0, c1, c2⟩, c3, c4, c5⟩ := HF _ ((fun m => grown_drewN w1 m none) m); go_simp; rfl); (go_simp; refine hK _ _ ?_; clear hK K)
    refine fork1 1 (by kernel_rfl) ?_
    refine t_call rfl rfl 35 #[viewV b1 t1 v1] (fun W => by rw [HV.out.1]; go_simp) (fun m => (HO1 _ (grown_trans HA.out.2.2.2 ((fun m => grown_drewN w1 m none) m))).mono ?_)
    rintro e w2 ⟨rfl, hg⟩
    have G2 := hid_mk (show w1.grownBy w2 none from grown_trans ((fun m => grown_drewN w1 m none) m) hg)
    clear hg
    rw [HV.out.2.2.1]
    refine ⟨_, rfl, ?_⟩
    go_simp
    refine fork1 3 (by kernel_rfl) ?_
    refine t_call rfl rfl 35 #[viewV b2 t2 v2] (fun W => by rw [HV.out.2.1]; go_simp) (fun m => (HO2 _ (grown_trans HA.out.2.2.2 ((fun m => grown_trans G2.out (grown_drewN w2 m none)) m))).mono ?_)
    rintro e w3 ⟨rfl, hg⟩
    have G3 := hid_mk (show w1.grownBy w3 none from grown_trans ((fun m => grown_trans G2.out (grown_drewN w2 m none)) m) hg)
    clear hg
    rw [HV.out.2.2.2]
    refine ⟨_, rfl, ?_⟩
    go_simp
    refine fork1 4 (by kernel_rfl) ?_
    refine t_skip rfl rfl (fun m4 => ?_)
    have k4 := HR (w3.drewN m4) (grown_trans G3.out (grown_drewN w3 m4 none))
    obtain ⟨s0, s1, s2⟩ := (HA.out.1.kept (grown_trans G3.out (grown_drewN w3 m4 none)) (by simp)).cells
    have y0 := (HA.out.1.kept (grown_trans G3.out (grown_drewN w3 m4 none)) (by simp)).frozen (i := 0)
    have y1 := (HA.out.1.kept (grown_trans G3.out (grown_drewN w3 m4 none)) (by simp)).frozen (i := 1)
    have y2 := (HA.out.1.kept (grown_trans G3.out (grown_drewN w3 m4 none)) (by simp)).frozen (i := 2)
    refine ⟨_, by go_simp; rfl, ?_⟩
    have H4 := hid_mk k4
    clear k4 s0 s1 s2 y0 y1 y2
    generalize (((w3.drewN m4).setCell ⟨q2, 0, none⟩ (.int .i64 B1)).setCell ⟨q2, 1, none⟩ (.int .i64 T1)).setCell ⟨q2, 2, none⟩ (.slice xa1 E1.length xc1) = w4 at *
    refine fork1 5 (by kernel_rfl) ?_
    refine t_skip rfl rfl (fun m5 => ?_)
    have H4' := hid_mk (show VB (w4.drewN m5) q2 B1 T1 (.slice xa1 E1.length xc1) ∧ VB (w4.drewN m5) q3 b2 t2 v2 ∧ Blk (w4.drewN m5) q4 #[.int .i64 0, .slice none 0 0, .slice none 0 0] 61 ∧ w.grownBy (w4.drewN m5) none from ⟨H4.out.1, H4.out.2.1, H4.out.2.2.1, grown_trans H4.out.2.2.2 (grown_drewN w4 m5 none)⟩)
    have k5 := HR2 (w4.drewN m5) H4'.out
    obtain ⟨s0, s1, s2⟩ := H4'.out.2.1.cells
    have y0 := H4'.out.2.1.frozen (i := 0)
    have y1 := H4'.out.2.1.frozen (i := 1)
    have y2 := H4'.out.2.1.frozen (i := 2)
    refine ⟨_, by go_simp; rfl, ?_⟩
    have H5 := hid_mk k5
    clear k5 s0 s1 s2 y0 y1 y2
    generalize (((w4.drewN m5).setCell ⟨q3, 0, none⟩ (.int .i64 B2)).setCell ⟨q3, 1, none⟩ (.int .i64 T2)).setCell ⟨q3, 2, none⟩ (.slice xa2 E2.length xc2) = w5 at *
    refine fork_end (by kernel_rfl) ⟨rfl, ?_⟩
    rintro w' ⟨m6, rfl⟩
    exact ⟨H5.out.1, H5.out.2.1, H5.out.2.2.1, grown_trans H5.out.2.2.2 (grown_drewN w5 m6 none)⟩
  · rintro wF ⟨f1, f2, f3, f4⟩
    have HF2 := hid_mk (show VB wF q2 B1 T1 (.slice xa1 E1.length xc1) ∧ VB wF q3 B2 T2 (.slice xa2 E2.length xc2) ∧ Blk wF q4 #[.int .i64 0, .slice none 0 0, .slice none 0 0] 61 ∧ w.grownBy wF none from ⟨f1, f2, f3, f4⟩)
    clear f1 f2 f3 f4 HR HR2 HF HO1 HO2
    have HG : ∀ W, wF.grownBy W none → (W.cell? ⟨q2, 0, none⟩ = some (.int .i64 B1) ∧ W.cell? ⟨q2, 1, none⟩ = some (.int .i64 T1) ∧ W.cell? ⟨q2, 2, none⟩ = some (.slice xa1 E1.length xc1)) ∧ (W.cell? ⟨q3, 0, none⟩ = some (.int .i64 B2) ∧ W.cell? ⟨q3, 1, none⟩ = some (.int .i64 T2) ∧ W.cell? ⟨q3, 2, none⟩ = some (.slice xa2 E2.length xc2)) := fun W hW => ⟨(HF2.out.1.kept hW (by simp)).cells, (HF2.out.2.1.kept hW (by simp)).cells⟩
    obtain ⟨⟨c0, c1, c2⟩, c3, c4, c5⟩ := HG wF (grown_refl wF none)
    go_upto_region 3 with fail
    clear c0 c1 c2 c3 c4 c5
    rw [HMX.out]
    refine wp_region_mix [(0, true), (1, true), (3, true), (4, true), (2, false), (5, false), (6, true), (7, true)] (at0 wF (fun W => wF.grownBy W none)) (by kernel_rfl) (by kernel_rfl) rfl (by kernel_rfl) (shut_at0 (fun m => grown_drewN _ m none)) ⟨1, rfl⟩ ?_
    iterate 4 (refine mix_rd1 rfl rfl (fun K hK => ?_); apply Exists.intro; refine ⟨fun W hW => ?_, ?_⟩; (obtain ⟨⟨c0, c1, c2⟩, c3, c4, c5⟩ := HG W hW; go_simp; rfl); (go_simp; refine hK _ _ ?_; clear hK K))
    refine mix_call rfl rfl 45 #[.int .i64 C, viewV B1 T1 (.slice xa1 E1.length xc1)] (fun W => by rw [HV.out.2.2.1]; go_simp) ?_
    rintro W ⟨mA, rfl⟩
    refine (HAB (wF.drewN mA) (grown_trans HF2.out.2.2.2 (grown_drewN _ mA none))).mono ?_
    rintro e wA ⟨xa, xc, rfl, hxa, hg⟩
    have HL1 := hid_mk (show EntsR w (.slice xa L1.length xc) L1 ∧ wF.grownBy wA none from ⟨hxa, grown_trans (grown_drewN _ mA none) hg⟩)
    clear hxa hg
    refine ⟨_, rfl, at0 wA (fun W => wF.grownBy W none), ⟨0, rfl⟩, shut_at0 (all_kept HL1.out.2), fun _ h => h, ?_⟩
    refine mix_call rfl rfl 45 #[.int .i64 C, viewV B2 T2 (.slice xa2 E2.length xc2)] (fun W => by rw [HV.out.2.2.2]; go_simp) ?_
    rintro W ⟨mB, rfl⟩
    refine (HAC (wA.drewN mB) (grown_trans HF2.out.2.2.2 (grown_trans HL1.out.2 (grown_drewN _ mB none)))).mono ?_
    rintro e wB ⟨ya, yc, rfl, hxa, hg⟩
    have HL2 := hid_mk (show EntsR w (.slice xa L1.length xc) L1 ∧ EntsR w (.slice ya L2.length yc) L2 ∧ wF.grownBy wB none from ⟨HL1.out.1, hxa, grown_trans HL1.out.2 (grown_trans (grown_drewN _ mB none) hg)⟩)
    clear hxa hg HL1 HAB HAC
    refine ⟨_, rfl, at0 wB (fun W => wF.grownBy W none), ⟨0, rfl⟩, shut_at0 (all_kept HL2.out.2.2), fun _ h => h, ?_⟩
    repeat (refine mix_rd1 rfl rfl (fun K hK => ?_); apply Exists.intro; refine ⟨fun W hW => ?_, ?_⟩; (go_simp; rfl); (go_simp; refine hK _ _ ?_; clear hK K))
    refine mix_nil ?_
    rintro W ⟨mC, rfl⟩
    obtain ⟨wC, hwC⟩ : ∃ W, W = wB.drewN mC := ⟨_, rfl⟩
    have HL3 := hid_mk (show EntsR w (.slice xa L1.length xc) L1 ∧ EntsR w (.slice ya L2.length yc) L2 ∧ wF.grownBy wC none from by
      rw [hwC]
      exact ⟨HL2.out.1, HL2.out.2.1, grown_trans HL2.out.2.2 (grown_drewN _ mC none)⟩)
    rw [← hwC]
    clear HL2 hwC
    obtain ⟨N, hN⟩ : ∃ N, N = min L1.length L2.length := ⟨_, rfl⟩
    obtain ⟨sx, cx, hsx, hrx⟩ := HL3.out.1.h N (by omega)
    obtain ⟨sy, cy, hsy, hry⟩ := HL3.out.2.1.h N (by omega)
    have HS := hid_mk (And.intro hrx hry)
    have HN2 := hid_mk hN
    clear hrx hry
    obtain ⟨k1, hk1⟩ : ∃ k, k = L1.length := ⟨_, rfl⟩
    obtain ⟨k2, hk2⟩ : ∃ k, k = L2.length := ⟨_, rfl⟩
    have HK := hid_mk (And.intro hk1 hk2)
    rw [← hk1] at hN hsx
    rw [← hk2] at hN hsy
    rw [← hk1, ← hk2]
    clear hk1 hk2
    rcases Nat.lt_or_ge k2 k1 with hlt | hle
    rotate_left
    · have hle' : (k1 : Int) ≤ k2 := by omega
      have hN' : N = k1 := by omega
      clear hN
      subst hN'
      go_upto_region 5 with fail
      refine wp_region_mix [(0, true), (1, true), (2, true), (3, true), (4, true), (5, true), (6, true), (7, true), (8, false)] (at0 wC (fun W => wC.grownBy W (some q4))) (by kernel_rfl) (by kernel_rfl) rfl (by kernel_rfl) (shut_at0 (fun m => grown_drewN _ m _)) ⟨1, rfl⟩ ?_
      iterate 3 (refine mix_rd1 rfl rfl (fun K hK => ?_); apply Exists.intro; refine ⟨fun W hW => ?_, ?_⟩; (go_simp; rfl); (go_simp; refine hK _ _ ?_; clear hK K))
      refine mix_rd rfl rfl (.slice sx N cx) (fun W hW => by go_simp) ?_
      iterate 2 (refine mix_rd1 rfl rfl (fun K hK => ?_); apply Exists.intro; refine ⟨fun W hW => ?_, ?_⟩; (go_simp; rfl); (go_simp; refine hK _ _ ?_; clear hK K))
      refine mix_rd rfl rfl (.slice sy N cy) (fun W hW => by go_simp) ?_
      (refine mix_rd1 rfl rfl (fun K hK => ?_); apply Exists.intro; refine ⟨fun W hW => ?_, ?_⟩; (go_simp; rfl); (go_simp; refine hK _ _ ?_; clear hK K))
      refine mix_skip rfl rfl ?_
      rintro W ⟨mE, rfl⟩
      have hvE := HF2.out.2.2.1.kept (grown_trans HL3.out.2.2 (grown_drewN wC mE none)) (by simp)
      have z0 := hvE.frozen 0
      have z1 := hvE.frozen 1
      have z2 := hvE.frozen 2
      have e0 : (wC.drewN mE).cell? ⟨q4, 0, none⟩ = some (.int .i64 0) := hvE.cell 0
      have e1 : (wC.drewN mE).cell? ⟨q4, 1, none⟩ = some (.slice none 0 0) := hvE.cell 1
      have e2 : (wC.drewN mE).cell? ⟨q4, 2, none⟩ = some (.slice none 0 0) := hvE.cell 2
      have hpt := hvE.put3 (.int .i64 C) (.slice sx N cx) (.slice sy N cy)
      have HPT := hid_mk hpt
      refine ⟨_, by go_simp; rfl, at0 ((((wC.drewN mE).setCell ⟨q4, 0, none⟩ (.int .i64 C)).setCell ⟨q4, 1, none⟩ (.slice sx N cx)).setCell ⟨q4, 2, none⟩ (.slice sy N cy)) (fun W => wC.grownBy W (some q4)), ⟨0, rfl⟩, shut_at0 (fun m => grown_trans (grown_any (grown_drewN wC mE none) _) (grown_trans HPT.out.2 (grown_drewN _ m _))), fun _ h => h, ?_⟩
      have gF : w.grownBy (wC.drewN mE) none := grown_trans HF2.out.2.2.2 (grown_trans HL3.out.2.2 (grown_drewN wC mE none))
      have gE : w.grownBy ((((wC.drewN mE).setCell ⟨q4, 0, none⟩ (.int .i64 C)).setCell ⟨q4, 1, none⟩ (.slice sx N cx)).setCell ⟨q4, 2, none⟩ (.slice sy N cy)) none := grown_new gF HPT.out.2 HQ.out.2.2.1
      have HEND := hid_mk (And.intro HPT.out.1 gE)
      clear hvE e0 e1 e2 z0 z1 z2 hpt HPT gF gE
      generalize (((wC.drewN mE).setCell ⟨q4, 0, none⟩ (.int .i64 C)).setCell ⟨q4, 1, none⟩ (.slice sx N cx)).setCell ⟨q4, 2, none⟩ (.slice sy N cy) = wE at *
      refine mix_nil ?_
      rintro W ⟨mG, rfl⟩
      go_wp2_with fail
      refine bodyPost_ret (ret_com rfl _ _ _ _ _ _ rfl (HEND.out.1.kept (grown_drewN wE mG none) (by simp))) rfl ?_
      refine ⟨.slice sx N cx, .slice sy N cy, L1.take N, L2.take N, rfl, ?_, ?_, ?_, ?_, ?_, grown_trans HEND.out.2 (grown_drewN wE mG none)⟩
      · exact HS.out.1.kept (grown_trans HEND.out.2 (grown_drewN wE mG none))
      · exact HS.out.2.kept (grown_trans HEND.out.2 (grown_drewN wE mG none))
      · have := HN2.out; simp only [List.length_take]; omega
      · have := HN2.out; have := HLX.out; simp only [List.length_take]; omega
      · rw [HN2.out]; exact zip_min L1 L2
    · have hlt' : (k2 : Int) < k1 := by omega
      have hN' : N = k2 := by omega
      clear hN
      subst hN'
      go_upto_region 5 with fail
      refine wp_region_mix [(0, true), (1, true), (2, true), (3, true), (4, true), (5, true), (6, true), (7, true), (8, false)] (at0 wC (fun W => wC.grownBy W (some q4))) (by kernel_rfl) (by kernel_rfl) rfl (by kernel_rfl) (shut_at0 (fun m => grown_drewN _ m _)) ⟨1, rfl⟩ ?_
      iterate 3 (refine mix_rd1 rfl rfl (fun K hK => ?_); apply Exists.intro; refine ⟨fun W hW => ?_, ?_⟩; (go_simp; rfl); (go_simp; refine hK _ _ ?_; clear hK K))
      refine mix_rd rfl rfl (.slice sx N cx) (fun W hW => by go_simp) ?_
      iterate 2 (refine mix_rd1 rfl rfl (fun K hK => ?_); apply Exists.intro; refine ⟨fun W hW => ?_, ?_⟩; (go_simp; rfl); (go_simp; refine hK _ _ ?_; clear hK K))
      refine mix_rd rfl rfl (.slice sy N cy) (fun W hW => by go_simp) ?_
      (refine mix_rd1 rfl rfl (fun K hK => ?_); apply Exists.intro; refine ⟨fun W hW => ?_, ?_⟩; (go_simp; rfl); (go_simp; refine hK _ _ ?_; clear hK K))
      refine mix_skip rfl rfl ?_
      rintro W ⟨mE, rfl⟩
      have hvE := HF2.out.2.2.1.kept (grown_trans HL3.out.2.2 (grown_drewN wC mE none)) (by simp)
      have z0 := hvE.frozen 0
      have z1 := hvE.frozen 1
      have z2 := hvE.frozen 2
      have e0 : (wC.drewN mE).cell? ⟨q4, 0, none⟩ = some (.int .i64 0) := hvE.cell 0
      have e1 : (wC.drewN mE).cell? ⟨q4, 1, none⟩ = some (.slice none 0 0) := hvE.cell 1
      have e2 : (wC.drewN mE).cell? ⟨q4, 2, none⟩ = some (.slice none 0 0) := hvE.cell 2
      have hpt := hvE.put3 (.int .i64 C) (.slice sx N cx) (.slice sy N cy)
      have HPT := hid_mk hpt
      refine ⟨_, by go_simp; rfl, at0 ((((wC.drewN mE).setCell ⟨q4, 0, none⟩ (.int .i64 C)).setCell ⟨q4, 1, none⟩ (.slice sx N cx)).setCell ⟨q4, 2, none⟩ (.slice sy N cy)) (fun W => wC.grownBy W (some q4)), ⟨0, rfl⟩, shut_at0 (fun m => grown_trans (grown_any (grown_drewN wC mE none) _) (grown_trans HPT.out.2 (grown_drewN _ m _))), fun _ h => h, ?_⟩
      have gF : w.grownBy (wC.drewN mE) none := grown_trans HF2.out.2.2.2 (grown_trans HL3.out.2.2 (grown_drewN wC mE none))
      have gE : w.grownBy ((((wC.drewN mE).setCell ⟨q4, 0, none⟩ (.int .i64 C)).setCell ⟨q4, 1, none⟩ (.slice sx N cx)).setCell ⟨q4, 2, none⟩ (.slice sy N cy)) none := grown_new gF HPT.out.2 HQ.out.2.2.1
      have HEND := hid_mk (And.intro HPT.out.1 gE)
      clear hvE e0 e1 e2 z0 z1 z2 hpt HPT gF gE
      generalize (((wC.drewN mE).setCell ⟨q4, 0, none⟩ (.int .i64 C)).setCell ⟨q4, 1, none⟩ (.slice sx N cx)).setCell ⟨q4, 2, none⟩ (.slice sy N cy) = wE at *
      refine mix_nil ?_
      rintro W ⟨mG, rfl⟩
      go_wp2_with fail
      refine bodyPost_ret (ret_com rfl _ _ _ _ _ _ rfl (HEND.out.1.kept (grown_drewN wE mG none) (by simp))) rfl ?_
      refine ⟨.slice sx N cx, .slice sy N cy, L1.take N, L2.take N, rfl, ?_, ?_, ?_, ?_, ?_, grown_trans HEND.out.2 (grown_drewN wE mG none)⟩
      · exact HS.out.1.kept (grown_trans HEND.out.2 (grown_drewN wE mG none))
      · exact HS.out.2.kept (grown_trans HEND.out.2 (grown_drewN wE mG none))
      · have := HN2.out; simp only [List.length_take]; omega
      · have := HN2.out; have := HLX.out; simp only [List.length_take]; omega
      · rw [HN2.out]; exact zip_min L1 L2
end Go.Proofs.Ytcijjepleedecaa.W
