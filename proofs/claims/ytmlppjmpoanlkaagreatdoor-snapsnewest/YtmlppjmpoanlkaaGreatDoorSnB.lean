/- snaps: Put. -/
import Derived.Test.YtmlppjmpoanlkaaGreatDoorSnA
import Derived.Test.YtmlppjmpoanlkaaGreatDoorVAnyB
namespace Go.Proofs.YtmlppjmpoanlkaaGreatDoor.W
open Go.RowKit Go.Maps
set_option linter.unusedVariables false
set_option linter.unusedSimpArgs false
set_option maxRecDepth 100000

/-- A snapshot in memory, as it is handed over. -/
structure SnapAt (w : World) (sv dv : Value) (x : Snap) : Prop where
  s : IntsR w sv x.s
  d : Byt w dv x.d
theorem SnapAt.kept {w w' : World} {sv dv : Value} {x : Snap} (h : SnapAt w sv dv x) (hg : w.grownBy w' none) : SnapAt w' sv dv x := ⟨h.s.kept hg, h.d.kept hg⟩
def snapV (x : Snap) (sv dv : Value) : Value := .agg #[.int .i64 x.i, .int .i64 x.t, sv, dv]

set_option maxHeartbeats 2000000 in
theorem putS_bad (x : Snap) (sv dv : Value) (w : World) (h : SnapAt w sv dv x) (hm : mayS x = false) : Calls Tryz.prog 9 #[snapV x sv dv] w fun e w' => e = .returned (.tuple #[.slice none 0 0, .int .i64 1]) ∧ w.grownBy w' none := by
  obtain ⟨sa, sc, rfl⟩ := h.s.len
  obtain ⟨da, dc, rfl⟩ := h.d.len
  have HA : Hid (V.Blk (w.alloc (.cells #[.int .i64 x.i, .int .i64 x.t, .slice sa x.s.length sc, .slice da x.d.length dc] 27)) w.heap.size #[.int .i64 x.i, .int .i64 x.t, .slice sa x.s.length sc, .slice da x.d.length dc] 27 ∧ w.grownBy (w.alloc (.cells #[.int .i64 x.i, .int .i64 x.t, .slice sa x.s.length sc, .slice da x.d.length dc] 27)) none) := hid_mk ⟨heap_alloc_new _ _, World.grownBy_alloc _ _ _⟩
  have HS := hid_mk (h.kept HA.out.2)
  have HM := hid_mk hm
  clear h hm
  unfold snapV
  go_enter Tryz.func9, Tryz.ntmps9
  go_wp2_with fail
  refine (putServers_any _ x.s _ HS.out.s).mono ?_
  cases hr : rightS x.s with
  | false =>
    rw [(srvL_bad hr).1, (srvL_bad hr).2]
    rintro e w1 ⟨a1, c1, rfl, ho1, hg1⟩
    have H1 := hid_mk (grown_trans HA.out.2 hg1)
    clear ho1 hg1 hr
    go_wp2_with fail
    go_ret2
    exact ⟨rfl, H1.out⟩
  | true =>
    have hb : inB x = false := by
      have := HM.out
      simpa [mayS, hr] using this
    rw [(srvL_ok hr).1, (srvL_ok hr).2]
    rintro e w1 ⟨a1, c1, rfl, ho1, hg1⟩
    have H1 := hid_mk (grown_trans HA.out.2 hg1)
    have B1 := hid_mk (HA.out.1.kept hg1 (by simp))
    have q0 : w1.cell? ⟨w.heap.size, 0, none⟩ = some (.int .i64 x.i) := by rw [B1.out.cell]; rfl
    have q1 : w1.cell? ⟨w.heap.size, 1, none⟩ = some (.int .i64 x.t) := by rw [B1.out.cell]; rfl
    have q2 : w1.cell? ⟨w.heap.size, 2, none⟩ = some (.slice sa x.s.length sc) := by rw [B1.out.cell]; rfl
    have q3 : w1.cell? ⟨w.heap.size, 3, none⟩ = some (.slice da x.d.length dc) := by rw [B1.out.cell]; rfl
    clear ho1 hg1 hr
    go_wp2_with fail
    refine (inBounds_any x _ da dc w1 ⟨_, _, _, rfl⟩).mono ?_
    rintro e w2 ⟨rfl, hg2⟩
    rw [hb]
    have H2 := hid_mk (grown_trans H1.out hg2)
    clear hg2 q0 q1 q2 q3 hb
    go_wp2_with fail
    go_ret2
    exact ⟨rfl, H2.out⟩

theorem parts_four (g : Nat) (w' : World) (v1 v2 v3 v4 : Value) (l1 l2 l3 l4 : List UInt8) (h1 : Byt w' v1 l1) (h2 : Byt w' v2 l2) (h3 : Byt w' v3 l3) (h4 : Byt w' v4 l4) (hb : V.Blk w' g #[v1, v2, v3, v4] 23) : Parts w' (.slice (some ⟨g, 0, none⟩) 4 4) [(v1, l1), (v2, l2), (v3, l3), (v4, l4)] := by
  refine .inr ⟨g, 0, 4, rfl, Nat.le_refl _, fun j p hj => ?_⟩
  match j, hj with
  | 0, hj => cases hj; exact ⟨by rw [hb.cell]; rfl, h1⟩
  | 1, hj => cases hj; exact ⟨by rw [hb.cell]; rfl, h2⟩
  | 2, hj => cases hj; exact ⟨by rw [hb.cell]; rfl, h3⟩
  | 3, hj => cases hj; exact ⟨by rw [hb.cell]; rfl, h4⟩

set_option maxHeartbeats 2000000 in
theorem putS_ok (x : Snap) (sv dv : Value) (w : World) (h : SnapAt w sv dv x) (hm : mayS x = true) (ht : F.Tab w) : Calls Tryz.prog 9 #[snapV x sv dv] w (OkPost (snapB x) 0 w) := by
  obtain ⟨sa, sc, rfl⟩ := h.s.len
  obtain ⟨da, dc, rfl⟩ := h.d.len
  have HT := hid_mk ht
  have HA : Hid (V.Blk (w.alloc (.cells #[.int .i64 x.i, .int .i64 x.t, .slice sa x.s.length sc, .slice da x.d.length dc] 27)) w.heap.size #[.int .i64 x.i, .int .i64 x.t, .slice sa x.s.length sc, .slice da x.d.length dc] 27 ∧ w.grownBy (w.alloc (.cells #[.int .i64 x.i, .int .i64 x.t, .slice sa x.s.length sc, .slice da x.d.length dc] 27)) none) := hid_mk ⟨heap_alloc_new _ _, World.grownBy_alloc _ _ _⟩
  have HS := hid_mk (h.kept HA.out.2)
  have HM := hid_mk (mayS_iff.1 hm)
  clear h hm ht
  unfold snapV
  go_enter Tryz.func9, Tryz.ntmps9
  go_wp2_with fail
  refine (putServers_any _ x.s _ HS.out.s).mono ?_
  rw [(srvL_ok HM.out.1).1, (srvL_ok HM.out.1).2]
  rintro e w1 ⟨a1, c1, rfl, ho1, hg1⟩
  have H1 := hid_mk (And.intro ho1.byt (grown_trans HA.out.2 hg1))
  have B1 := hid_mk (HA.out.1.kept hg1 (by simp))
  have S1 := hid_mk (HS.out.kept hg1)
  have q0 : w1.cell? ⟨w.heap.size, 0, none⟩ = some (.int .i64 x.i) := by rw [B1.out.cell]; rfl
  have q1 : w1.cell? ⟨w.heap.size, 1, none⟩ = some (.int .i64 x.t) := by rw [B1.out.cell]; rfl
  have q2 : w1.cell? ⟨w.heap.size, 2, none⟩ = some (.slice sa x.s.length sc) := by rw [B1.out.cell]; rfl
  have q3 : w1.cell? ⟨w.heap.size, 3, none⟩ = some (.slice da x.d.length dc) := by rw [B1.out.cell]; rfl
  clear ho1 hg1 HA HS
  go_wp2_with fail
  refine (inBounds_any x _ da dc w1 ⟨_, _, _, rfl⟩).mono ?_
  rintro e w2 ⟨rfl, hg2⟩
  rw [HM.out.2]
  have H2 := hid_mk (And.intro (H1.out.1.kept hg2) (grown_trans H1.out.2 hg2))
  have B2 := hid_mk (B1.out.kept hg2 (by simp))
  have S2 := hid_mk (S1.out.kept hg2)
  clear hg2 q0 q1 q2 q3 H1 B1 S1
  obtain ⟨b1, b2, b3, b4, b5⟩ := inB_iff.1 HM.out.2
  have HC : ∀ W0, w2.grownBy W0 none → W0.cell? ⟨w.heap.size, 0, none⟩ = some (.int .i64 x.i) ∧ W0.cell? ⟨w.heap.size, 1, none⟩ = some (.int .i64 x.t) ∧ W0.cell? ⟨w.heap.size, 3, none⟩ = some (.slice da x.d.length dc) := fun W0 hW => by
    have hb := B2.out.kept hW (by simp)
    exact ⟨by rw [hb.cell]; rfl, by rw [hb.cell]; rfl, by rw [hb.cell]; rfl⟩
  go_upto_region 4 with fail
  refine wp_region_mix [(0, true), (1, true), (3, true), (4, true), (6, true), (8, true), (9, true), (2, false), (5, false), (7, false), (10, false), (11, false), (12, false), (13, false), (14, true), (15, true), (16, true), (17, true)] (at0 w2 (fun W0 => w2.grownBy W0 none)) (by kernel_rfl) (by kernel_rfl) rfl (by kernel_rfl) (shut_at0 (fun m => grown_drewN _ m none)) ⟨1, rfl⟩ ?_
  repeat (first
    | (refine mix_rd1 rfl rfl (fun K hK => ?_); apply Exists.intro; refine ⟨fun W0 hW => ?_, ?_⟩; (obtain ⟨f0, f1, f3⟩ := HC W0 hW; go_simp; rfl); (go_simp; refine hK _ _ ?_; clear hK K)))
  clear HC
  refine mix_call rfl rfl 31 #[.int .i64 x.i] (fun W0 => by go_simp) ?_
  rintro W0 ⟨m3, rfl⟩
  refine (number_int x.i (w2.drewN m3) (by omega) (by omega)).mono ?_
  rintro e w3 ⟨a3, c3, rfl, ho3, hg3⟩
  have G3 := hid_mk (grown_trans (grown_drewN w2 m3 none) hg3)
  have H3 := hid_mk ho3.byt
  clear ho3 hg3
  refine ⟨_, rfl, at0 w3 (fun W0 => w3.grownBy W0 none), ⟨0, rfl⟩, shut_at0 (fun m => grown_drewN _ m none), fun _ h => grown_trans G3.out h, ?_⟩
  refine mix_call rfl rfl 31 #[.int .i64 x.t] (fun W0 => by go_simp) ?_
  rintro W0 ⟨m4, rfl⟩
  refine (number_int x.t (w3.drewN m4) (by omega) (by omega)).mono ?_
  rintro e w4 ⟨a4, c4, rfl, ho4, hg4⟩
  have G4 := hid_mk (grown_trans (grown_drewN w3 m4 none) hg4)
  have H4 := hid_mk ho4.byt
  clear ho4 hg4
  refine ⟨_, rfl, at0 w4 (fun W0 => w4.grownBy W0 none), ⟨0, rfl⟩, shut_at0 (fun m => grown_drewN _ m none), fun _ h => grown_trans G4.out h, ?_⟩
  have G24 := hid_mk (grown_trans G3.out G4.out)
  refine mix_call rfl rfl 32 #[.slice a1 (srvB x.s).length c1] (fun W0 => by go_simp) ?_
  rintro W0 ⟨m5, rfl⟩
  refine (counted_int _ (srvB x.s) (w4.drewN m5) (H2.out.1.kept (grown_trans G24.out (grown_drewN _ _ none))) (by have := srvB_len HM.out.1; omega)).mono ?_
  rintro e w5 ⟨a5, c5, rfl, ho5, hg5⟩
  have G5 := hid_mk (grown_trans (grown_drewN w4 m5 none) hg5)
  have H5 := hid_mk ho5.byt
  clear ho5 hg5
  refine ⟨_, rfl, at0 w5 (fun W0 => w5.grownBy W0 none), ⟨0, rfl⟩, shut_at0 (fun m => grown_drewN _ m none), fun _ h => grown_trans G5.out h, ?_⟩
  have G25 := hid_mk (grown_trans G24.out G5.out)
  refine mix_call rfl rfl 32 #[.slice da x.d.length dc] (fun W0 => by go_simp) ?_
  rintro W0 ⟨m6, rfl⟩
  refine (counted_int _ x.d (w5.drewN m6) (S2.out.d.kept (grown_trans G25.out (grown_drewN _ _ none))) (by omega)).mono ?_
  rintro e w6 ⟨a6, c6, rfl, ho6, hg6⟩
  have G6 := hid_mk (grown_trans (grown_drewN w5 m6 none) hg6)
  have H6 := hid_mk ho6.byt
  clear ho6 hg6
  refine ⟨_, rfl, at0 w6 (fun W0 => w6.grownBy W0 none), ⟨0, rfl⟩, shut_at0 (fun m => grown_drewN _ m none), fun _ h => grown_trans G6.out h, ?_⟩
  have G26 := hid_mk (grown_trans G25.out G6.out)
  have HL := hid_mk (show (inS x).length ≤ 64200 by
    unfold inS txtB
    simp only [List.length_append]
    have := numB_le (n := x.i.toNat) (by omega)
    have := numB_le (n := x.t.toNat) (by omega)
    have h7 := srvB_len HM.out.1
    have := numB_le (n := (srvB x.s).length) (by omega)
    have := numB_le (n := x.d.length) (by omega)
    omega)
  refine mix_do rfl rfl ?_
  rintro W0 ⟨m7, rfl⟩
  refine ⟨.slice (some ⟨(w6.drewN m7).heap.size, 0, none⟩) 4 4, (w6.drewN m7).alloc (.cells #[.slice a3 (numB x.i.toNat).length c3, .slice a4 (numB x.t.toNat).length c4, .slice a5 (txtB (srvB x.s)).length c5, .slice a6 (txtB x.d).length c6] 23), by go_simp, ?_⟩
  have HP : Hid (Parts ((w6.drewN m7).alloc (.cells #[.slice a3 (numB x.i.toNat).length c3, .slice a4 (numB x.t.toNat).length c4, .slice a5 (txtB (srvB x.s)).length c5, .slice a6 (txtB x.d).length c6] 23)) (.slice (some ⟨(w6.drewN m7).heap.size, 0, none⟩) 4 4) [(.slice a3 (numB x.i.toNat).length c3, numB x.i.toNat), (.slice a4 (numB x.t.toNat).length c4, numB x.t.toNat), (.slice a5 (txtB (srvB x.s)).length c5, txtB (srvB x.s)), (.slice a6 (txtB x.d).length c6, txtB x.d)] ∧ w6.grownBy ((w6.drewN m7).alloc (.cells #[.slice a3 (numB x.i.toNat).length c3, .slice a4 (numB x.t.toNat).length c4, .slice a5 (txtB (srvB x.s)).length c5, .slice a6 (txtB x.d).length c6] 23)) none) := hid_mk (by
    have hg : w6.grownBy ((w6.drewN m7).alloc (.cells #[.slice a3 (numB x.i.toNat).length c3, .slice a4 (numB x.t.toNat).length c4, .slice a5 (txtB (srvB x.s)).length c5, .slice a6 (txtB x.d).length c6] 23)) none := grown_trans (grown_drewN w6 m7 none) (World.grownBy_alloc _ _ _)
    exact ⟨parts_four _ _ _ _ _ _ _ _ _ _ (H3.out.kept (grown_trans G4.out (grown_trans G5.out (grown_trans G6.out hg)))) (H4.out.kept (grown_trans G5.out (grown_trans G6.out hg))) (H5.out.kept (grown_trans G6.out hg)) (H6.out.kept hg) (heap_alloc_new _ _), hg⟩)
  generalize (w6.drewN m7).heap.size = g7 at *
  generalize ((w6.drewN m7).alloc (.cells #[.slice a3 (numB x.i.toNat).length c3, .slice a4 (numB x.t.toNat).length c4, .slice a5 (txtB (srvB x.s)).length c5, .slice a6 (txtB x.d).length c6] 23)) = w7 at *
  have HF := hid_mk (show flat [((.slice a3 (numB x.i.toNat).length c3 : Value), numB x.i.toNat), (.slice a4 (numB x.t.toNat).length c4, numB x.t.toNat), (.slice a5 (txtB (srvB x.s)).length c5, txtB (srvB x.s)), (.slice a6 (txtB x.d).length c6, txtB x.d)] = inS x by simp [flat, inS])
  refine ⟨at0 w7 (fun W0 => w7.grownBy W0 none), ⟨0, rfl⟩, shut_at0 (fun m => grown_drewN _ m none), fun _ h => grown_trans HP.out.2 h, ?_⟩
  refine mix_call rfl rfl 30 #[.slice (some ⟨g7, 0, none⟩) 4 4] (fun W0 => by go_simp) ?_
  rintro W0 ⟨m8, rfl⟩
  refine (join_any _ _ (w7.drewN m8) (HP.out.1.kept (grown_drewN _ _ none)) (by simp) (by rw [HF.out]; have := HL.out; omega)).mono ?_
  rintro e w8 ⟨v8, rfl, ho8, hg8⟩
  have G8 := hid_mk (grown_trans (grown_drewN w7 m8 none) hg8)
  rw [HF.out] at ho8
  obtain ⟨a8, c8, rfl⟩ := ho8.len
  have H8 := hid_mk ho8.byt
  clear ho8 hg8
  refine ⟨_, rfl, at0 w8 (fun W0 => w8.grownBy W0 none), ⟨0, rfl⟩, shut_at0 (fun m => grown_drewN _ m none), fun _ h => grown_trans G8.out h, ?_⟩
  have GT := hid_mk (grown_trans H2.out.2 (grown_trans G26.out (grown_trans HP.out.2 G8.out)))
  obtain ⟨L, hL⟩ : ∃ L, inS x = L := ⟨_, rfl⟩
  rw [hL] at H8 HL ⊢
  have HE := hid_mk (show snapB x = F.putB 5 L by unfold snapB; rw [hL])
  clear hL HP H2 H3 H4 H5 H6 HF
  refine mix_call rfl rfl 29 #[.int .i64 5, .slice a8 L.length c8] (fun W0 => by go_simp) ?_
  rintro W0 ⟨m9, rfl⟩
  refine (F.put_ok 5 _ L (w8.drewN m9) (by omega) (by omega) (F.Byt.kept H8.out (grown_drewN _ _ none)) (by have := HL.out; omega) (HT.out.kept (grown_trans GT.out (grown_drewN _ _ none)))).mono ?_
  rintro e w9 ⟨g9, rfl, hb9, hlo9, hg9⟩
  have H9 := hid_mk (show Own w9 w.heap.size (.slice (some ⟨g9, 0, none⟩) (L.length + 9) (L.length + 9)) (F.putB 5 L) ∧ w.grownBy w9 none by
    have hb : BlkB w9 g9 (F.putB 5 L) := hb9
    have := hb.own (by rw [F.putB_len]; have := HL.out; unfold maxLen; omega)
    rw [F.putB_len] at this
    exact ⟨this.base (Nat.le_trans GT.out.size hlo9), grown_trans GT.out (grown_trans (grown_drewN _ _ none) hg9)⟩)
  have G9 := hid_mk (grown_trans (grown_drewN w8 m9 none) hg9)
  clear hb9 hlo9 hg9
  refine ⟨_, rfl, at0 w9 (fun W0 => w9.grownBy W0 none), ⟨0, rfl⟩, shut_at0 (fun m => grown_drewN _ m none), fun _ h => grown_trans G9.out h, ?_⟩
  repeat (first
    | (refine mix_rd1 rfl rfl (fun K hK => ?_); apply Exists.intro; refine ⟨fun W0 hW => ?_, ?_⟩; (go_simp; rfl); (go_simp; refine hK _ _ ?_; clear hK K)))
  refine mix_nil ?_
  rintro W0 ⟨m10, rfl⟩
  go_wp2_with fail
  go_ret2
  unfold OkPost
  rw [HE.out, F.putB_len]
  refine ⟨some ⟨g9, 0, none⟩, L.length + 9, rfl, ?_, grown_trans H9.out.2 (grown_drewN _ _ none)⟩
  exact H9.out.1.kept (grown_drewN _ _ none) (.inl rfl)

end Go.Proofs.YtmlppjmpoanlkaaGreatDoor.W
