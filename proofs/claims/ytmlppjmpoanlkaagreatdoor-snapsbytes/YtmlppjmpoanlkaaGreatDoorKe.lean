/- snaps: Put. -/
import Derived.Test.YtmlppjmpoanlkaaGreatDoorSnA
import Derived.Test.YtmlppjmpoanlkaaGreatDoorVAnyB
namespace Go.Proofs.YtmlppjmpoanlkaaGreatDoor.W
open Go.RowKit Go.Maps
set_option linter.unusedVariables false
set_option linter.unusedSimpArgs false
set_option maxRecDepth 100000

/-- A snapshot in memory, as it is handed over. -/
structure SnapAt (w : World) (sv dv : Value) (x : Snap) : Prop where
  s : IntsR w sv x.s
  d : Byt w dv x.d
theorem SnapAt.kept {w w' : World} {sv dv : Value} {x : Snap} (h : SnapAt w sv dv x) (hg : w.grownBy w' none) : SnapAt w' sv dv x := ⟨h.s.kept hg, h.d.kept hg⟩
def snapV (x : Snap) (sv dv : Value) : Value := .agg #[.int .i64 x.i, .int .i64 x.t, sv, dv]

set_option maxHeartbeats 2000000 in
theorem putS_bad (x : Snap) (sv dv : Value) (w : World) (h : SnapAt w sv dv x) (hm : mayS x = false) : Calls Tryz.prog 9 #[snapV x sv dv] w fun e w' => e = .returned (.tuple #[.slice none 0 0, .int .i64 1]) ∧ w.grownBy w' none := by
  obtain ⟨sa, sc, rfl⟩ := h.s.len
  obtain ⟨da, dc, rfl⟩ := h.d.len
  have HA : Hid (V.Blk (w.alloc (.cells #[.int .i64 x.i, .int .i64 x.t, .slice sa x.s.length sc, .slice da x.d.length dc] 27)) w.heap.size #[.int .i64 x.i, .int .i64 x.t, .slice sa x.s.length sc, .slice da x.d.length dc] 27 ∧ w.grownBy (w.alloc (.cells #[.int .i64 x.i, .int .i64 x.t, .slice sa x.s.length sc, .slice da x.d.length dc] 27)) none) := hid_mk ⟨heap_alloc_new _ _, World.grownBy_alloc _ _ _⟩
  have HS := hid_mk (h.kept HA.out.2)
  have HM := hid_mk hm
  clear h hm
  unfold snapV
  go_enter Tryz.func9, Tryz.ntmps9
  go_wp2_with fail
  refine (putServers_any _ x.s _ HS.out.s).mono ?_
  cases hr : rightS x.s with
  | false =>
    rw [(srvL_bad hr).1, (srvL_bad hr).2]
    rintro e w1 ⟨a1, c1, rfl, ho1, hg1⟩
    have H1 := hid_mk (grown_trans HA.out.2 hg1)
    clear ho1 hg1 hr
    go_wp2_with fail
    go_ret2
    exact ⟨rfl, H1.out⟩
  | true =>
    have hb : inB x = false := by
      have := HM.out
      simpa [mayS, hr] using this
    rw [(srvL_ok hr).1, (srvL_ok hr).2]
    rintro e w1 ⟨a1, c1, rfl, ho1, hg1⟩
    have H1 := hid_mk (grown_trans HA.out.2 hg1)
    have B1 := hid_mk (HA.out.1.kept hg1 (by simp))
    have q0 : w1.cell? ⟨w.heap.size, 0, none⟩ = some (.int .i64 x.i) := by rw [B1.out.cell]; rfl
    have q1 : w1.cell? ⟨w.heap.size, 1, none⟩ = some (.int .i64 x.t) := by rw [B1.out.cell]; rfl
    have q2 : w1.cell? ⟨w.heap.size, 2, none⟩ = some (.slice sa x.s.length sc) := by rw [B1.out.cell]; rfl
    have q3 : w1.cell? ⟨w.heap.size, 3, none⟩ = some (.slice da x.d.length dc) := by rw [B1.out.cell]; rfl
    clear ho1 hg1 hr
    go_wp2_with fail
    refine (inBounds_any x _ da dc w1 ⟨_, _, _, rfl⟩).mono ?_
    rintro e w2 ⟨rfl, hg2⟩
    rw [hb]
    have H2 := hid_mk (grown_trans H1.out hg2)
    clear hg2 q0 q1 q2 q3 hb
    go_wp2_with fail
    go_ret2
    exact ⟨rfl, H2.out⟩

theorem parts_four (g : Nat) (w' : World) (v1 v2 v3 v4 : Value) (l1 l2 l3 l4 : List UInt8) (h1 : Byt w' v1 l1) (h2 : Byt w' v2 l2) (h3 : Byt w' v3 l3) (h4 : Byt w' v4 l4) (hb : V.Blk w' g #[v1, v2, v3, v4] 23) : Parts w' (.slice (some ⟨g, 0, none⟩) 4 4) [(v1, l1), (v2, l2), (v3, l3), (v4, l4)] := by
  refine .inr ⟨g, 0, 4, rfl, Nat.le_refl _, fun j p hj => ?_⟩
  match j, hj with
  | 0, hj => cases hj; exact ⟨by rw [hb.cell]; rfl, h1⟩
  | 1, hj => cases hj; exact ⟨by rw [hb.cell]; rfl, h2⟩
  | 2, hj => cases hj; exact ⟨by rw [hb.cell]; rfl, h3⟩
  | 3, hj => cases hj; exact ⟨by rw [hb.cell]; rfl, h4⟩

set_option maxHeartbeats 2000000 in
theorem putS_ok (x : Snap) (sv dv : Value) (w : World) (h : SnapAt w sv dv x) (hm : mayS x = true) (ht : F.Tab w) : Calls Tryz.prog 9 #[snapV x sv dv] w (OkPost (snapB x) 0 w) := by
  obtain ⟨sa, sc, rfl⟩ := h.s.len
  obtain ⟨da, dc, rfl⟩ := h.d.len
  have HT := hid_mk ht
  have HA : Hid (V.Blk (w.alloc (.cells #[.int .i64 x.i, .int .i64 x.t, .slice sa x.s.length sc, .slice da x.d.length dc] 27)) w.heap.size #[.int .i64 x.i, .int .i64 x.t, .slice sa x.s.length sc, .slice da x.d.length dc] 27 ∧ w.grownBy (w.alloc (.cells #[.int .i64 x.i, .int .i64 x.t, .slice sa x.s.length sc, .slice da x.d.length dc] 27)) none) := hid_mk ⟨heap_alloc_new _ _, World.grownBy_alloc _ _ _⟩
  have HS := hid_mk (h.kept HA.out.2)
  have HM := hid_mk (mayS_iff.1 hm)
  clear h hm ht
  unfold snapV
  go_enter Tryz.func9, Tryz.ntmps9
  go_wp2_with fail
  refine (putServers_any _ x.s _ HS.out.s).mono ?_
  rw [(srvL_ok HM.out.1).1, (srvL_ok HM.out.1).2]
  rintro e w1 ⟨a1, c1, rfl, ho1, hg1⟩
  have H1 := hid_mk (And.intro ho1.byt (grown_trans HA.out.2 hg1))
  have B1 := hid_mk (HA.out.1.kept hg1 (by simp))
  have S1 := hid_mk (HS.out.kept hg1)
  have q0 : w1.cell? ⟨w.heap.size, 0, none⟩ = some (.int .i64 x.i) := by rw [B1.out.cell]; rfl
  have q1 : w1.cell? ⟨w.heap.size, 1, none⟩ = some (.int .i64 x.t) := by rw [B1.out.cell]; rfl
  have q2 : w1.cell? ⟨w.heap.size, 2, none⟩ = some (.slice sa x.s.length sc) := by rw [B1.out.cell]; rfl
  have q3 : w1.cell? ⟨w.heap.size, 3, none⟩ = some (.slice da x.d.length dc) := by rw [B1.out.cell]; rfl
  clear ho1 hg1 HA HS
  go_wp2_with fail
  refine (inBounds_any x _ da dc w1 ⟨_, _, _, rfl⟩).mono ?_
  rintro e w2 ⟨rfl, hg2⟩
  rw [HM.out.2]
  have H2 := hid_mk (And.intro (H1.out.1.kept hg2) (grown_trans H1.out.2 hg2))
  have B2 := hid_mk (B1.out.kept hg2 (by simp))
  have S2 := hid_mk (S1.out.kept hg2)
  clear hg2 q0 q1 q2 q3 H1 B1 S1
  obtain ⟨b1, b2, b3, b4, b5⟩ := inB_iff.1 HM.out.2
  have HC : ∀ W0, w2.grownBy W0 none → W0.cell? ⟨w.heap.size, 0, none⟩ = some (.int .i64 x.i) ∧ W0.cell? ⟨w.heap.size, 1, none⟩ = some (.int .i64 x.t) ∧ W0.cell? ⟨w.heap.size, 3, none⟩ = some (.slice da x.d.length dc) := fun W0 hW => by
    have hb := B2.out.kept hW (by simp)
    exact ⟨by rw [hb.cell]; rfl, by rw [hb.cell]; rfl, by rw [hb.cell]; rfl⟩
  go_upto_region 4 with fail
  refine wp_region_mix [(0, true), (1, true), (3, true), (4, true), (6, true), (8, true), (9, true), (2, false), (5, false), (7, false), (10, false), (11, false), (12, false), (13, false), (14, true), (15, true), (16, true), (17, true)] (at0 w2 (fun W0 => w2.grownBy W0 none)) (by kernel_rfl) (by kernel_rfl) rfl (by kernel_rfl) (shut_at0 (fun m => grown_drewN _ m none)) ⟨1, rfl⟩ ?_
  repeat (first
    | (refine mix_rd1 rfl rfl (fun K hK => ?_); apply Exists.intro; refine ⟨fun W0 hW => ?_, ?_⟩; (obtain ⟨f0, f1, f3⟩ := HC W0 hW; go_simp; rfl); (go_simp; refine hK _ _ ?_; clear hK K)))
  clear HC
  refine mix_call rfl rfl 31 #[.int .i64 x.i] (fun W0 => by go_simp) ?_
  rintro W0 ⟨m3, rfl⟩
  refine (number_int x.i (w2.drewN m3) (by omega) (by omega)).mono ?_
  rintro e w3 ⟨a3, c3, rfl, ho3, hg3⟩
  have G3 := hid_mk (grown_trans (grown_drewN w2 m3 none) hg3)
  have H3 := hid_mk ho3.byt
  clear ho3 hg3
  refine ⟨_, rfl, at0 w3 (fun W0 => w3.grownBy W0 none), ⟨0, rfl⟩, shut_at0 (fun m => grown_drewN _ m none), fun _ h => grown_trans G3.out h, ?_⟩
  refine mix_call rfl rfl 31 #[.int .i64 x.t] (fun W0 => by go_simp) ?_
  rintro W0 ⟨m4, rfl⟩
  refine (number_int x.t (w3.drewN m4) (by omega) (by omega)).mono ?_
  rintro e w4 ⟨a4, c4, rfl, ho4, hg4⟩
  have G4 := hid_mk (grown_trans (grown_drewN w3 m4 none) hg4)
  have H4 := hid_mk ho4.byt
  clear ho4 hg4
  refine ⟨_, rfl, at0 w4 (fun W0 => w4.grownBy W0 none), ⟨0, rfl⟩, shut_at0 (fun m => grown_drewN _ m none), fun _ h => grown_trans G4.out h, ?_⟩
  have G24 := hid_mk (grown_trans G3.out G4.out)
  refine mix_call rfl rfl 32 #[.slice a1 (srvB x.s).length c1] (fun W0 => by go_simp) ?_
  rintro W0 ⟨m5, rfl⟩
  refine (counted_int _ (srvB x.s) (w4.drewN m5) (H2.out.1.kept (grown_trans G24.out (grown_drewN _ _ none))) (by have := srvB_len HM.out.1; omega)).mono ?_
  rintro e w5 ⟨a5, c5, rfl, ho5, hg5⟩
  have G5 := hid_mk (grown_trans (grown_drewN w4 m5 none) hg5)
  have H5 := hid_mk ho5.byt
  clear ho5 hg5
  refine ⟨_, rfl, at0 w5 (fun W0 => w5.grownBy W0 none), ⟨0, rfl⟩, shut_at0 (fun m => grown_drewN _ m none), fun _ h => grown_trans G5.out h, ?_⟩
  have G25 := hid_mk (grown_trans G24.out G5.out)
  refine mix_call rfl rfl 32 #[.slice da x.d.length dc] (fun W0 => by go_simp) ?_
  rintro W0 ⟨m6, rfl⟩
  refine (counted_int _ x.d (w5.drewN m6) (S2.out.d.kept (grown_trans G25.out (grown_drewN _ _ none))) (by omega)).mono ?_
  rintro e w6 ⟨a6, c6, rfl, ho6, hg6⟩
  have G6 := hid_mk (grown_trans (grown_drewN w5 m6 none) hg6)
  have H6 := hid_mk ho6.byt
  clear ho6 hg6
  refine ⟨_, rfl, at0 w6 (fun W0 => w6.grownBy W0 none), ⟨0, rfl⟩, shut_at0 (fun m => grown_drewN _ m none), fun _ h => grown_trans G6.out h, ?_⟩
  have G26 := hid_mk (grown_trans G25.out G6.out)
  have HL := hid_mk (show (inS x).length ≤ 64200 by
    unfold inS txtB
    simp only [List.length_append]
    have := numB_le (n := x.i.toNat) (by omega)
    have := numB_le (n := x.t.toNat) (by omega)
    have h7 := srvB_len HM.out.1
    have := numB_le (n := (srvB x.s).length) (by omega)
    have := numB_le (n := x.d.length) (by omega)
    omega)
  refine mix_do rfl rfl ?_
  rintro W0 ⟨m7, rfl⟩
  refine ⟨.slice (some ⟨(w6.drewN m7).heap.size, 0, none⟩) 4 4, (w6.drewN m7).alloc (.cells #[.slice a3 (numB x.i.toNat).length c3, .slice a4 (numB x.t.toNat).length c4, .slice a5 (txtB (srvB x.s)).length c5, .slice a6 (txtB x.d).length c6] 23), by go_simp, ?_⟩
  have HP : Hid (Parts ((w6.drewN m7).alloc (.cells #[.slice a3 (numB x.i.toNat).length c3, .slice a4 (numB x.t.toNat).length c4, .slice a5 (txtB (srvB x.s)).length c5, .slice a6 (txtB x.d).length c6] 23)) (.slice (some ⟨(w6.drewN m7).heap.size, 0, none⟩) 4 4) [(.slice a3 (numB x.i.toNat).length c3, numB x.i.toNat), (.slice a4 (numB x.t.toNat).length c4, numB x.t.toNat), (.slice a5 (txtB (srvB x.s)).length c5, txtB (srvB x.s)), (.slice a6 (txtB x.d).length c6, txtB x.d)] ∧ w6.grownBy ((w6.drewN m7).alloc (.cells #[.slice a3 (numB x.i.toNat).length c3, .slice a4 (numB x.t.toNat).length c4, .slice a5 (txtB (srvB x.s)).length c5, .slice a6 (txtB x.d).length c6] 23)) none) := hid_mk (by
    have hg : w6.grownBy ((w6.drewN m7).alloc (.cells #[.slice a3 (numB x.i.toNat).length c3, .slice a4 (numB x.t.toNat).length c4, .slice a5 (txtB (srvB x.s)).length c5, .slice a6 (txtB x.d).length c6] 23)) none := grown_trans (grown_drewN w6 m7 none) (World.grownBy_alloc _ _ _)
    exact ⟨parts_four _ _ _ _ _ _ _ _ _ _ (H3.out.kept (grown_trans G4.out (grown_trans G5.out (grown_trans G6.out hg)))) (H4.out.kept (grown_trans G5.out (grown_trans G6.out hg))) (H5.out.kept (grown_trans G6.out hg)) (H6.out.kept hg) (heap_alloc_new _ _), hg⟩)
  generalize (w6.drewN m7).heap.size = g7 at *
  generalize ((w6.drewN m7).alloc (.cells #[.slice a3 (numB x.i.toNat).length c3, .slice a4 (numB x.t.toNat).length c4, .slice a5 (txtB (srvB x.s)).length c5, .slice a6 (txtB x.d).length c6] 23)) = w7 at *
  have HF := hid_mk (show flat [((.slice a3 (numB x.i.toNat).length c3 : Value), numB x.i.toNat), (.slice a4 (numB x.t.toNat).length c4, numB x.t.toNat), (.slice a5 (txtB (srvB x.s)).length c5, txtB (srvB x.s)), (.slice a6 (txtB x.d).length c6, txtB x.d)] = inS x by simp [flat, inS])
  refine ⟨at0 w7 (fun W0 => w7.grownBy W0 none), ⟨0, rfl⟩, shut_at0 (fun m => grown_drewN _ m none), fun _ h => grown_trans HP.out.2 h, ?_⟩
  refine mix_call rfl rfl 30 #[.slice (some ⟨g7, 0, none⟩) 4 4] (fun W0 => by go_simp) ?_
  rintro W0 ⟨m8, rfl⟩
  refine (join_any _ _ (w7.drewN m8) (HP.out.1.kept (grown_drewN _ _ none)) (by simp) (by rw [HF.out]; have := HL.out; omega)).mono ?_
  rintro e w8 ⟨v8, rfl, ho8, hg8⟩
  have G8 := hid_mk (grown_trans (grown_drewN w7 m8 none) hg8)
  rw [HF.out] at ho8
  obtain ⟨a8, c8, rfl⟩ := ho8.len
  have H8 := hid_mk ho8.byt
  clear ho8 hg8
  refine ⟨_, rfl, at0 w8 (fun W0 => w8.grownBy W0 none), ⟨0, rfl⟩, shut_at0 (fun m => grown_drewN _ m none), fun _ h => grown_trans G8.out h, ?_⟩
  have GT := hid_mk (grown_trans H2.out.2 (grown_trans G26.out (grown_trans HP.out.2 G8.out)))
  obtain ⟨L, hL⟩ : ∃ L, inS x = L := ⟨_, rfl⟩
  rw [hL] at H8 HL ⊢
  have HE := hid_mk (show snapB x = F.putB 5 L by unfold snapB; rw [hL])
  clear hL HP H2 H3 H4 H5 H6 HF
  refine mix_call rfl rfl 29 #[.int .i64 5, .slice a8 L.length c8] (fun W0 => by go_simp) ?_
  rintro W0 ⟨m9, rfl⟩
  refine (F.put_ok 5 _ L (w8.drewN m9) (by omega) (by omega) (F.Byt.kept H8.out (grown_drewN _ _ none)) (by have := HL.out; omega) (HT.out.kept (grown_trans GT.out (grown_drewN _ _ none)))).mono ?_
  rintro e w9 ⟨g9, rfl, hb9, hlo9, hg9⟩
  have H9 := hid_mk (show Own w9 w.heap.size (.slice (some ⟨g9, 0, none⟩) (L.length + 9) (L.length + 9)) (F.putB 5 L) ∧ w.grownBy w9 none by
    have hb : BlkB w9 g9 (F.putB 5 L) := hb9
    have := hb.own (by rw [F.putB_len]; have := HL.out; unfold maxLen; omega)
    rw [F.putB_len] at this
    exact ⟨this.base (Nat.le_trans GT.out.size hlo9), grown_trans GT.out (grown_trans (grown_drewN _ _ none) hg9)⟩)
  have G9 := hid_mk (grown_trans (grown_drewN w8 m9 none) hg9)
  clear hb9 hlo9 hg9
  refine ⟨_, rfl, at0 w9 (fun W0 => w9.grownBy W0 none), ⟨0, rfl⟩, shut_at0 (fun m => grown_drewN _ m none), fun _ h => grown_trans G9.out h, ?_⟩
  repeat (first
    | (refine mix_rd1 rfl rfl (fun K hK => ?_); apply Exists.intro; refine ⟨fun W0 hW => ?_, ?_⟩; (go_simp; rfl); (go_simp; refine hK _ _ ?_; clear hK K)))
  refine mix_nil ?_
  rintro W0 ⟨m10, rfl⟩
  go_wp2_with fail
  go_ret2
  unfold OkPost
  rw [HE.out, F.putB_len]
  refine ⟨some ⟨g9, 0, none⟩, L.length + 9, rfl, ?_, grown_trans H9.out.2 (grown_drewN _ _ none)⟩
  exact H9.out.1.kept (grown_drewN _ _ none) (.inl rfl)

end Go.Proofs.YtmlppjmpoanlkaaGreatDoor.W

/- snaps: Get. -/
namespace Go.Proofs.YtmlppjmpoanlkaaGreatDoor.W
open Go.RowKit Go.Maps
set_option linter.unusedVariables false
set_option linter.unusedSimpArgs false
set_option maxRecDepth 100000

/-- A Snapshot in memory. -/
def SB (w : World) (b : Nat) (i t : Int) (sv dv : Value) : Prop := V.Blk w b #[.int .i64 i, .int .i64 t, sv, dv] 27
theorem SB.all {w : World} {b : Nat} {i t : Int} {sv dv : Value} (h : SB w b i t sv dv) : w.cell? ⟨b, 0, none⟩ = some (.int .i64 i) ∧ w.cell? ⟨b, 1, none⟩ = some (.int .i64 t) ∧ w.cell? ⟨b, 2, none⟩ = some sv ∧ w.cell? ⟨b, 3, none⟩ = some dv ∧ ∀ j, w.frozen? ⟨b, j, none⟩ = false :=
  ⟨by rw [h.cell]; rfl, by rw [h.cell]; rfl, by rw [h.cell]; rfl, by rw [h.cell]; rfl, fun j => h.frozen j⟩
theorem SB.laid {w : World} {b : Nat} {i t : Int} {sv dv : Value} (h : SB w b i t sv dv) (i' t' : Int) (sv' dv' : Value) : SB ((((w.setCell ⟨b, 0, none⟩ (.int .i64 i')).setCell ⟨b, 1, none⟩ (.int .i64 t')).setCell ⟨b, 2, none⟩ sv').setCell ⟨b, 3, none⟩ dv') b i' t' sv' dv' :=
  (V.Blk.set (V.Blk.set (V.Blk.set (V.Blk.set h 0 _) 1 _) 2 _) 3 _)
theorem load27 (w : World) (b : Nat) (i t : Int) (sv dv : Value) (h : SB w b i t sv dv) : (loadVar 27 ⟨b, 0, none⟩).run Tryz.prog w = .ok (.agg #[.int .i64 i, .int .i64 t, sv, dv]) w := by
  obtain ⟨h0, h1, h2, h3, _⟩ := h.all
  simp [loadVar, go_sem, h0, h1, h2, h3]
theorem ret_snap {fn : Func} {p u : Tmp} (h : fn.results = #[.cell p 27, .tmp u]) (tmps : Array Value) (w : World) (b : Nat) (i t : Int) (sv dv : Value) (hp : tmps.getD p undef = .pointer (some ⟨b, 0, none⟩)) (hb : SB w b i t sv dv) :
    (results fn tmps).run Tryz.prog w = .ok (.tuple #[.agg #[.int .i64 i, .int .i64 t, sv, dv], tmps.getD u undef]) w := by
  have ha : (asAddr (.pointer (some ⟨b, 0, none⟩))).run Tryz.prog w = .ok ⟨b, 0, none⟩ w := by simp [asAddr]
  rw [results_cell_tmp h, hp, ha]
  simp only [Result.andThen]
  rw [load27 w b i t sv dv hb]

theorem readB_most (s : St) : (readB s).1.length ≤ 1048576 := by
  unfold readB
  split
  · simp
  · by_cases h : (bytR s.rest).2.2 = 0
    · exact (bytR_get (l := s.rest) (d := (bytR s.rest).1) (s := (bytR s.rest).2.1) (by rw [← h])).2.2
    · rw [(bytR_bad h).1]; simp
/-- What is read of a frame's bytes. -/
def rd1 (d : List UInt8) : St := (readN ⟨d, 0⟩).2
def rd2 (d : List UInt8) : St := (readN (rd1 d)).2
def rd3 (d : List UInt8) : St := (readB (rd2 d)).2
def rd4 (d : List UInt8) : St := (readB (rd3 d)).2
def valS (d : List UInt8) : Snap := ⟨(readN ⟨d, 0⟩).1, (readN (rd1 d)).1, gotL (readB (rd2 d)).1, (readB (rd3 d)).1⟩
def okS (d : List UInt8) : Bool := decide (gotE (readB (rd2 d)).1 = 0) && (decide (endE (rd4 d) = 0) && inB (valS d))
theorem okS_iff {d : List UInt8} : okS d = true ↔ gotE (readB (rd2 d)).1 = 0 ∧ endE (rd4 d) = 0 ∧ inB (valS d) = true := by simp [okS]
/-- The Snapshot that bytes are. -/
def gS (bs : List UInt8) : Option Snap :=
  match F.scanB bs with
  | ([(k, d)], n) => if n = bs.length ∧ k = 5 ∧ okS d = true then some (valS d) else none
  | _ => none
theorem gS_bad {bs : List UInt8} {s : List F.Fr} (h : F.Told bs s) (hb : ∀ x, s = [x] → F.endOf s = bs.length → x.k = 5 → okS x.d = false) : gS bs = none := by
  unfold gS
  rw [h]
  match s, hb with
  | [], _ => rfl
  | [x], hb =>
    show (if _ then _ else _) = _
    rw [if_neg]
    rintro ⟨h1, h2, h3⟩
    have h4 : okS x.d = true := h3
    rw [hb x rfl h1 h2] at h4
    cases h4
  | x :: y :: r, _ => rfl
theorem gS_ok {bs : List UInt8} {x : F.Fr} (h : F.Told bs [x]) (h1 : F.endOf [x] = bs.length) (h2 : x.k = 5) (h3 : okS x.d = true) : gS bs = some (valS x.d) := by
  unfold gS
  rw [h]
  show (if _ then _ else _) = _
  rw [if_pos ⟨h1, h2, h3⟩]
/-- What Get answers, and what stays. -/
def GotS (o : Option Snap) (w : World) (e : Ending) (w' : World) : Prop :=
  w.grownBy w' none ∧ match o with
  | some x => ∃ sv dv, e = .returned (.tuple #[snapV x sv dv, .int .i64 0]) ∧ OwnI w' w.heap.size sv x.s ∧ Own w' w.heap.size dv x.d
  | none => e = .returned (.tuple #[.agg #[.int .i64 0, .int .i64 0, .slice none 0 0, .slice none 0 0], .int .i64 21])
theorem getS_end {fn : Func} (hfn : fn.results = #[.cell 2 27, .tmp 3]) (bs : List UInt8) (w W1 : World) (tmps : Array Value) (h2 : tmps.getD 2 undef = .pointer (some ⟨w.heap.size, 0, none⟩)) (h3 : tmps.getD 3 undef = .int .i64 21) (hV : SB W1 w.heap.size 0 0 (.slice none 0 0) (.slice none 0 0)) (hg : w.grownBy W1 none) (he : gS bs = none) :
    bodyPost Tryz.prog fn (GotS (gS bs) w) .ret { tmps := tmps, defers := [] } ((((W1.setCell ⟨w.heap.size, 0, none⟩ (.int .i64 0)).setCell ⟨w.heap.size, 1, none⟩ (.int .i64 0)).setCell ⟨w.heap.size, 2, none⟩ (.slice none 0 0)).setCell ⟨w.heap.size, 3, none⟩ (.slice none 0 0)) := by
  refine bodyPost_ret (ret_snap hfn _ _ w.heap.size 0 0 _ _ h2 (hV.laid 0 0 _ _)) rfl ?_
  rw [h3, he]
  exact ⟨grown_new (grown_new (grown_new (grown_new hg (grown_setCell _ _ _ _) (Nat.le_refl _)) (grown_setCell _ _ _ _) (Nat.le_refl _)) (grown_setCell _ _ _ _) (Nat.le_refl _)) (grown_setCell _ _ _ _) (Nat.le_refl _), rfl⟩
theorem OwnI.kept_low {w w' : World} {B r : Nat} {v : Value} {l : List Int} (h : OwnI w B v l) (hg : w.grownBy w' (some r)) (hr : r < B) : OwnI w' B v l := by
  refine ⟨h.1, ?_⟩
  rcases h.2 with hn | ⟨g, cap, cur, hv, hb, hh, rest⟩
  · exact .inl hn
  · exact .inr ⟨g, cap, cur, hv, hb, (hg.block g (Array.getElem?_eq_some_iff.1 hh).1 (fun e => by cases e; omega)).trans hh, rest⟩
theorem getS_fine {fn : Func} (hfn : fn.results = #[.cell 2 27, .tmp 3]) (bs : List UInt8) (x : Snap) (sv dv : Value) (w W1 : World) (tmps : Array Value) (h2 : tmps.getD 2 undef = .pointer (some ⟨w.heap.size, 0, none⟩)) (h3 : tmps.getD 3 undef = .int .i64 0) (hV : SB W1 w.heap.size 0 0 (.slice none 0 0) (.slice none 0 0)) (hS : OwnI W1 (w.heap.size + 1) sv x.s) (hD : Own W1 (w.heap.size + 1) dv x.d) (hg : w.grownBy W1 none) (he : gS bs = some x) :
    bodyPost Tryz.prog fn (GotS (gS bs) w) .ret { tmps := tmps, defers := [] } ((((W1.setCell ⟨w.heap.size, 0, none⟩ (.int .i64 x.i)).setCell ⟨w.heap.size, 1, none⟩ (.int .i64 x.t)).setCell ⟨w.heap.size, 2, none⟩ sv).setCell ⟨w.heap.size, 3, none⟩ dv) := by
  refine bodyPost_ret (ret_snap hfn _ _ w.heap.size x.i x.t _ _ h2 (hV.laid x.i x.t _ _)) rfl ?_
  rw [h3, he]
  refine ⟨grown_new (grown_new (grown_new (grown_new hg (grown_setCell _ _ _ _) (Nat.le_refl _)) (grown_setCell _ _ _ _) (Nat.le_refl _)) (grown_setCell _ _ _ _) (Nat.le_refl _)) (grown_setCell _ _ _ _) (Nat.le_refl _), sv, dv, rfl, ?_⟩
  have hs : ∀ (W : World) (i : Nat) (u : Value), OwnI W (w.heap.size + 1) sv x.s → OwnI (W.setCell ⟨w.heap.size, i, none⟩ u) (w.heap.size + 1) sv x.s := fun W i u h => h.kept_low (grown_setCell W w.heap.size i u) (by omega)
  have hd : ∀ (W : World) (i : Nat) (u : Value), Own W (w.heap.size + 1) dv x.d → Own (W.setCell ⟨w.heap.size, i, none⟩ u) (w.heap.size + 1) dv x.d := fun W i u h => h.kept_low (grown_setCell W w.heap.size i u) (by omega)
  exact ⟨(hs _ _ _ (hs _ _ _ (hs _ _ _ (hs _ _ _ hS)))).base (Nat.le_succ _), (hd _ _ _ (hd _ _ _ (hd _ _ _ (hd _ _ _ hD)))).base (Nat.le_succ _)⟩

set_option maxHeartbeats 4000000 in
theorem getS_own (v : Value) (bs : List UInt8) (w : World) (h : Byt w v bs) (ht : F.Tab w) (hl : bs.length ≤ 100000000) : Calls Tryz.prog 11 #[v] w (GotS (gS bs) w) := by
  obtain ⟨av, cv, rfl⟩ := h.len
  have HB := hid_mk h
  have HT := hid_mk ht
  clear h ht
  have HG : Hid (SB (w.alloc (.cells #[.int .i64 0, .int .i64 0, .slice none 0 0, .slice none 0 0] 27)) w.heap.size 0 0 (.slice none 0 0) (.slice none 0 0) ∧ w.grownBy (w.alloc (.cells #[.int .i64 0, .int .i64 0, .slice none 0 0, .slice none 0 0] 27)) none) := hid_mk ⟨heap_alloc_new _ _, World.grownBy_alloc _ _ _⟩
  go_enter Tryz.func11, Tryz.ntmps11
  go_wp2_with fail
  generalize (w.alloc (.cells #[.int .i64 0, .int .i64 0, .slice none 0 0, .slice none 0 0] 27)) = w0 at *
  refine (F.scan_any _ bs w0 (HB.out.kept HG.out.2) (HT.out.kept HG.out.2) hl).mono ?_
  rintro e w1 ⟨s, lv, hT, rfl, hr, hg⟩
  obtain ⟨la, lc, rfl⟩ := F.row_shape hr.1
  have H1 := hid_mk (And.intro hT (And.intro hr (grown_trans HG.out.2 hg)))
  have HV := hid_mk (show SB w1 w.heap.size 0 0 (.slice none 0 0) (.slice none 0 0) from HG.out.1.kept hg (by simp))
  clear hT hr hg HG
  by_cases hs : s.length = 1
  · obtain ⟨x, rfl⟩ := List.length_eq_one_iff.1 hs
    clear hs
    obtain ⟨g, rfl⟩ : ∃ g, la = some ⟨g, 0, none⟩ := by
      rcases H1.out.2.1.1.2 with ⟨e, h0⟩ | ⟨g, cap, cur, e, _⟩
      · cases h0
      · cases e; exact ⟨g, rfl⟩
    obtain ⟨k, d, dv⟩ := x
    have HD := hid_mk (show Own w1 w0.heap.size dv d from H1.out.2.1.2 _ (List.mem_singleton.2 rfl))
    obtain ⟨ad, cd, rfl⟩ := HD.out.len
    have r0 : w1.cell? ⟨g, 0, none⟩ = some (.int .i64 k.toNat) := by rw [H1.out.2.1.1.cellAt 0 (by simp)]; rfl
    have r1 : w1.cell? ⟨g, 1, none⟩ = some (.slice ad d.length cd) := by rw [H1.out.2.1.1.cellAt 1 (by simp)]; rfl
    obtain ⟨en, hen⟩ : ∃ en, F.endOf [⟨k, d, .slice ad d.length cd⟩] = en := ⟨_, rfl⟩
    simp only [hen]
    have HEN := hid_mk hen
    clear hen
    obtain ⟨c0, c1, c2, c3, cf⟩ := HV.out.all
    by_cases hw : en = bs.length
    · have hwb : decide (en = bs.length) = true := by simp [hw]
      by_cases hk : (k.toNat : Int) = 5
      · have hkb : ((k.toNat : Int) != 5) = false := by simp [hk]
        have HLd := hid_mk (show d.length ≤ 140737488355328 by have := HEN.out; simp [F.endOf] at this; omega)
        have HD1 := hid_mk (And.intro hw (show k = 5 from UInt8.toNat_inj.1 (by simpa using Int.ofNat.inj (by simpa using hk))))
        go_wp2_with fail
        clear r0 r1 c0 c1 c2 c3 cf
        refine (new_any _ d w1 HD.out.byt HLd.out).mono ?_
        rintro e w2 ⟨rb, rfl, hR2, hg2⟩
        have H2 := hid_mk (And.intro hR2 hg2)
        have HLo := hid_mk (show w.heap.size < w1.heap.size ∧ w1.heap.size ≤ rb from ⟨V.Blk.lt HV.out, hR2.lo⟩)
        have HV2 := hid_mk (show SB w2 w.heap.size 0 0 (.slice none 0 0) (.slice none 0 0) from V.Blk.kept HV.out hg2 (by simp))
        clear hR2 hg2
        go_wp2_with fail
        refine (num_rd _ _ rb ⟨d, 0⟩ w2 H2.out.1 HLd.out).mono ?_
        rintro e w3 ⟨rfl, hR3, hg3⟩
        have H3 := hid_mk (And.intro hR3 hg3)
        have HV3 := hid_mk (show SB w3 w.heap.size 0 0 (.slice none 0 0) (.slice none 0 0) from V.Blk.kept HV2.out hg3 (by have := HLo.out; simp; omega))
        clear hR3 hg3
        have HN1 := hid_mk (readN_lt ⟨d, 0⟩)
        have HLs := hid_mk (Nat.le_trans (readN_rest ⟨d, 0⟩) HLd.out)
        obtain ⟨n1, hn1⟩ : ∃ n, (readN ⟨d, 0⟩).1 = n := ⟨_, rfl⟩
        obtain ⟨s1, hs1⟩ : ∃ s, (readN ⟨d, 0⟩).2 = s := ⟨_, rfl⟩
        rw [hn1] at HN1 ⊢
        rw [hs1] at H3 HLs
        have HQ1 := hid_mk (show (readN ⟨d, 0⟩).1 = n1 ∧ rd1 d = s1 from ⟨hn1, hs1⟩)
        clear hn1 hs1
        go_wp2_with fail
        refine (num_rd _ _ rb s1 w3 H3.out.1 HLs.out).mono ?_
        rintro e w4 ⟨rfl, hR4, hg4⟩
        have H4 := hid_mk (And.intro hR4 hg4)
        have HV4 := hid_mk (show SB w4 w.heap.size 0 0 (.slice none 0 0) (.slice none 0 0) from V.Blk.kept HV3.out hg4 (by have := HLo.out; simp; omega))
        clear hR4 hg4
        have HLs2 := hid_mk (Nat.le_trans (readN_rest s1) HLs.out)
        obtain ⟨n2, hn2⟩ : ∃ n, (readN s1).1 = n := ⟨_, rfl⟩
        obtain ⟨s2, hs2⟩ : ∃ s, (readN s1).2 = s := ⟨_, rfl⟩
        rw [hn2] at ⊢
        rw [hs2] at H4 HLs2
        have HQ2 := hid_mk (show (readN (rd1 d)).1 = n2 ∧ rd2 d = s2 from by unfold rd2; rw [HQ1.out.2]; exact ⟨hn2, hs2⟩)
        clear hn2 hs2
        have HV5 : Hid (SB (w4.alloc (.cells #[.int .i64 n1, .int .i64 n2, .slice none 0 0, .slice none 0 0] 27)) w4.heap.size n1 n2 (.slice none 0 0) (.slice none 0 0) ∧ SB (w4.alloc (.cells #[.int .i64 n1, .int .i64 n2, .slice none 0 0, .slice none 0 0] 27)) w.heap.size 0 0 (.slice none 0 0) (.slice none 0 0) ∧ Rd (w4.alloc (.cells #[.int .i64 n1, .int .i64 n2, .slice none 0 0, .slice none 0 0] 27)) w1.heap.size w2.heap.size rb s2 ∧ w.grownBy (w4.alloc (.cells #[.int .i64 n1, .int .i64 n2, .slice none 0 0, .slice none 0 0] 27)) none ∧ w2.heap.size ≤ w4.heap.size) := hid_mk (by
          have hga := World.grownBy_alloc w4 (.cells #[.int .i64 n1, .int .i64 n2, .slice none 0 0, .slice none 0 0] 27) none
          have hlo := HLo.out
          exact ⟨heap_alloc_new _ _, V.Blk.kept HV4.out hga (by simp), H4.out.1.kept hga (fun r e => by cases e), grown_trans (grown_new (grown_new (grown_trans H1.out.2.2 H2.out.2) H3.out.2 (by omega)) H4.out.2 (by omega)) hga, Nat.le_trans H3.out.2.size H4.out.2.size⟩)
        go_wp2_with fail
        generalize (w4.alloc (.cells #[.int .i64 n1, .int .i64 n2, .slice none 0 0, .slice none 0 0] 27)) = w5 at *
        have HXV := hid_mk (show w.heap.size + 1 ≤ w4.heap.size ∧ rb < w4.heap.size ∧ w4.heap.size < w5.heap.size ∧ w2.heap.size ≤ w4.heap.size from ⟨by have := HLo.out; have := H2.out.2.size; have := HV5.out.2.2.2.2; omega, by have := HV5.out.2.2.1.hi; have := HV5.out.2.2.2.2; omega, V.Blk.lt HV5.out.1, HV5.out.2.2.2.2⟩)
        generalize w4.heap.size = xv at *
        clear H3 H4 HV HV2 HV3 HV4
        refine (byt_rd _ _ rb s2 w5 HV5.out.2.2.1 (by have := HXV.out; omega) HLs2.out).mono ?_
        rintro e w6 ⟨v6, rfl, ho6, hR6, hg6⟩
        have HLs3 := hid_mk (Nat.le_trans (readB_rest s2) HLs2.out)
        have HLb3 := hid_mk (show (readB s2).1.length ≤ 140737488355328 from Nat.le_trans (readB_most s2) (by decide))
        obtain ⟨b3, hb3⟩ : ∃ n, (readB s2).1 = n := ⟨_, rfl⟩
        obtain ⟨s3, hs3⟩ : ∃ s, (readB s2).2 = s := ⟨_, rfl⟩
        rw [hb3] at ho6 HLb3
        rw [hs3] at hR6 HLs3
        have HQ3 := hid_mk (show (readB (rd2 d)).1 = b3 ∧ rd3 d = s3 from by unfold rd3; rw [HQ2.out.2]; exact ⟨hb3, hs3⟩)
        clear hb3 hs3
        obtain ⟨a6, c6, rfl⟩ := ho6.len
        have H6 := hid_mk (show SB w6 xv n1 n2 (.slice none 0 0) (.slice none 0 0) ∧ SB w6 w.heap.size 0 0 (.slice none 0 0) (.slice none 0 0) ∧ Rd w6 w1.heap.size w2.heap.size rb s3 ∧ w.grownBy w6 none ∧ w5.heap.size ≤ w6.heap.size ∧ Byt w6 (.slice a6 b3.length c6) b3 from
          ⟨V.Blk.kept HV5.out.1 hg6 (by have := HXV.out; simp; omega), V.Blk.kept HV5.out.2.1 hg6 (by have := HLo.out; simp; omega), hR6, grown_new HV5.out.2.2.2.1 hg6 (by have := HLo.out; omega), hg6.size, ho6.byt⟩)
        clear ho6 hR6 hg6 HV5
        go_wp2_with fail
        refine (getServers_any _ b3 w6 H6.out.2.2.2.2.2 HLb3.out).mono ?_
        rintro e w7 ⟨a7, c7, rfl, ho7, hg7⟩
        have H7 := hid_mk (show SB w7 xv n1 n2 (.slice none 0 0) (.slice none 0 0) ∧ SB w7 w.heap.size 0 0 (.slice none 0 0) (.slice none 0 0) ∧ Rd w7 w1.heap.size w2.heap.size rb s3 ∧ w.grownBy w7 none ∧ w5.heap.size ≤ w7.heap.size ∧ OwnI w7 w5.heap.size (.slice a7 (gotL b3).length c7) (gotL b3) from
          ⟨V.Blk.kept H6.out.1 hg7 (by simp), V.Blk.kept H6.out.2.1 hg7 (by simp), H6.out.2.2.1.kept hg7 (fun r e => by cases e), grown_trans H6.out.2.2.2.1 hg7, Nat.le_trans H6.out.2.2.2.2.1 hg7.size, ho7.base H6.out.2.2.2.2.1⟩)
        clear ho7 hg7 H6
        obtain ⟨gl, hgl⟩ : ∃ n, gotL b3 = n := ⟨_, rfl⟩
        obtain ⟨ge, hge⟩ : ∃ n, gotE b3 = n := ⟨_, rfl⟩
        rw [hgl] at H7 ⊢
        rw [hge] at ⊢
        have HQg := hid_mk (show gotL (readB (rd2 d)).1 = gl ∧ gotE (readB (rd2 d)).1 = ge by rw [HQ3.out.1]; exact ⟨hgl, hge⟩)
        clear hgl hge
        go_wp2_with fail
        refine (byt_rd _ _ rb s3 w7 H7.out.2.2.1 (by have := HXV.out; have := H7.out.2.2.2.2.1; omega) HLs3.out).mono ?_
        rintro e w8 ⟨v8, rfl, ho8, hR8, hg8⟩
        obtain ⟨b4, hb4⟩ : ∃ n, (readB s3).1 = n := ⟨_, rfl⟩
        obtain ⟨s4, hs4⟩ : ∃ s, (readB s3).2 = s := ⟨_, rfl⟩
        rw [hb4] at ho8
        rw [hs4] at hR8
        have HQ4 := hid_mk (show (readB (rd3 d)).1 = b4 ∧ rd4 d = s4 from by unfold rd4; rw [HQ3.out.2]; exact ⟨hb4, hs4⟩)
        clear hb4 hs4
        obtain ⟨a8, c8, rfl⟩ := ho8.len
        have H8 := hid_mk (show SB w8 xv n1 n2 (.slice none 0 0) (.slice none 0 0) ∧ SB w8 w.heap.size 0 0 (.slice none 0 0) (.slice none 0 0) ∧ Rd w8 w1.heap.size w2.heap.size rb s4 ∧ w.grownBy w8 none ∧ OwnI w8 w5.heap.size (.slice a7 gl.length c7) gl ∧ Own w8 w5.heap.size (.slice a8 b4.length c8) b4 from
          ⟨V.Blk.kept H7.out.1 hg8 (by have := HXV.out; simp; omega), V.Blk.kept H7.out.2.1 hg8 (by have := HLo.out; simp; omega), hR8, grown_new H7.out.2.2.2.1 hg8 (by have := HLo.out; omega), H7.out.2.2.2.2.2.kept_low hg8 (by have := HXV.out; omega), ho8.base H7.out.2.2.2.2.1⟩)
        clear ho8 hR8 hg8 H7
        obtain ⟨x0, x1, x2, x3, xf⟩ := H8.out.1.all
        go_upto_region 8 with fail
        have H9 := hid_mk (show SB ((w8.setCell ⟨xv, 2, none⟩ (.slice a7 gl.length c7)).setCell ⟨xv, 3, none⟩ (.slice a8 b4.length c8)) xv n1 n2 (.slice a7 gl.length c7) (.slice a8 b4.length c8) ∧ SB ((w8.setCell ⟨xv, 2, none⟩ (.slice a7 gl.length c7)).setCell ⟨xv, 3, none⟩ (.slice a8 b4.length c8)) w.heap.size 0 0 (.slice none 0 0) (.slice none 0 0) ∧ Rd ((w8.setCell ⟨xv, 2, none⟩ (.slice a7 gl.length c7)).setCell ⟨xv, 3, none⟩ (.slice a8 b4.length c8)) w1.heap.size w2.heap.size rb s4 ∧ w.grownBy ((w8.setCell ⟨xv, 2, none⟩ (.slice a7 gl.length c7)).setCell ⟨xv, 3, none⟩ (.slice a8 b4.length c8)) none ∧ OwnI ((w8.setCell ⟨xv, 2, none⟩ (.slice a7 gl.length c7)).setCell ⟨xv, 3, none⟩ (.slice a8 b4.length c8)) (w.heap.size + 1) (.slice a7 gl.length c7) gl ∧ Own ((w8.setCell ⟨xv, 2, none⟩ (.slice a7 gl.length c7)).setCell ⟨xv, 3, none⟩ (.slice a8 b4.length c8)) (w.heap.size + 1) (.slice a8 b4.length c8) b4 by
          have hx := HXV.out
          have g1 := grown_setCell w8 xv 2 (.slice a7 gl.length c7)
          have g2 := grown_setCell (w8.setCell ⟨xv, 2, none⟩ (.slice a7 gl.length c7)) xv 3 (.slice a8 b4.length c8)
          exact ⟨V.Blk.set (V.Blk.set H8.out.1 2 _) 3 _, V.Blk.kept (V.Blk.kept H8.out.2.1 g1 (by simp; omega)) g2 (by simp; omega), (H8.out.2.2.1.kept g1 (fun r e => by cases e; omega)).kept g2 (fun r e => by cases e; omega), grown_new (grown_new H8.out.2.2.2.1 g1 (by omega)) g2 (by omega),
            ((H8.out.2.2.2.2.1.kept_low g1 (by omega)).kept_low g2 (by omega)).base (by omega), ((H8.out.2.2.2.2.2.kept_low g1 (by omega)).kept_low g2 (by omega)).base (by omega)⟩)
        generalize (w8.setCell ⟨xv, 2, none⟩ (.slice a7 gl.length c7)).setCell ⟨xv, 3, none⟩ (.slice a8 b4.length c8) = w9 at *
        clear x0 x1 x2 x3 xf H8
        have HVAL := hid_mk (show valS d = ⟨n1, n2, gl, b4⟩ by unfold valS; rw [HQ1.out.1, HQ2.out.1, HQg.out.1, HQ4.out.1])
        have HKEY := hid_mk (show okS d = true ↔ ge = 0 ∧ endE s4 = 0 ∧ inB ⟨n1, n2, gl, b4⟩ = true by rw [okS_iff, HQg.out.2, HQ4.out.2, HVAL.out])
        clear HQ1 HQ2 HQ3 HQg HQ4
        obtain ⟨c0, c1, c2, c3, cf⟩ := H9.out.2.1.all
        by_cases hge : ge = 0
        · subst hge
          go_wp2_with fail
          refine (end_rd _ _ rb s4 w9 H9.out.2.2.1).mono ?_
          rintro e w9' ⟨rfl, hw9⟩
          rw [hw9]
          clear hw9
          obtain ⟨ee, hee⟩ : ∃ n, endE s4 = n := ⟨_, rfl⟩
          rw [hee]
          have HEE := hid_mk hee
          clear hee
          by_cases hz : ee = 0
          · subst hz
            obtain ⟨y0, y1, y2, y3, _⟩ := H9.out.1.all
            go_wp2_with fail
            clear c0 c1 c2 c3 cf y0 y1 y2 y3
            refine (inBounds_any ⟨n1, n2, gl, b4⟩ _ a8 c8 w9 ⟨_, _, _, rfl⟩).mono ?_
            rintro e w10 ⟨rfl, hg10⟩
            have H10 := hid_mk (show SB w10 xv n1 n2 (.slice a7 gl.length c7) (.slice a8 b4.length c8) ∧ SB w10 w.heap.size 0 0 (.slice none 0 0) (.slice none 0 0) ∧ w.grownBy w10 none ∧ OwnI w10 (w.heap.size + 1) (.slice a7 gl.length c7) gl ∧ Own w10 (w.heap.size + 1) (.slice a8 b4.length c8) b4 from ⟨V.Blk.kept H9.out.1 hg10 (by simp), V.Blk.kept H9.out.2.1 hg10 (by simp), grown_trans H9.out.2.2.2.1 hg10, H9.out.2.2.2.2.1.kept hg10, H9.out.2.2.2.2.2.kept hg10 (.inl rfl)⟩)
            clear hg10 H9
            obtain ⟨c0, c1, c2, c3, cf⟩ := H10.out.2.1.all
            obtain ⟨y0, y1, y2, y3, _⟩ := H10.out.1.all
            cases hm : inB ⟨n1, n2, gl, b4⟩ with
            | true =>
              have HE2 := hid_mk (show gS bs = some ⟨n1, n2, gl, b4⟩ by
                rw [← HVAL.out]
                exact gS_ok H1.out.1 (by rw [HEN.out]; exact HD1.out.1) HD1.out.2 (HKEY.out.2 ⟨by trivial, HEE.out, hm⟩))
              clear hm
              go_wp2_with fail
              exact getS_fine rfl bs ⟨n1, n2, gl, b4⟩ _ _ w w10 _ rfl rfl H10.out.2.1 H10.out.2.2.2.1 H10.out.2.2.2.2 H10.out.2.2.1 HE2.out
            | false =>
              have HE2 := hid_mk (show gS bs = none from gS_bad H1.out.1 (fun x e _ _ => by
                cases e
                cases ho : okS d with
                | false => rfl
                | true => rw [(HKEY.out.1 ho).2.2] at hm; cases hm))
              clear hm
              go_wp2_with fail
              exact getS_end rfl bs w w10 _ rfl rfl H10.out.2.1 H10.out.2.2.1 HE2.out
          · have hzb : ((ee : Int) != 0) = true := by simp [hz]
            have HE2 := hid_mk (show gS bs = none from gS_bad H1.out.1 (fun x e _ _ => by
              cases e
              cases ho : okS d with
              | false => rfl
              | true => exact absurd (HEE.out.symm.trans (HKEY.out.1 ho).2.1) hz))
            go_wp2_with fail
            exact getS_end rfl bs w w9 _ rfl rfl H9.out.2.1 H9.out.2.2.2.1 HE2.out
        · have hgb : (ge != 0) = true := by simp [hge]
          have HE2 := hid_mk (show gS bs = none from gS_bad H1.out.1 (fun x e _ _ => by
            cases e
            cases ho : okS d with
            | false => rfl
            | true => exact absurd (HKEY.out.1 ho).1 hge))
          go_wp2_with fail
          exact getS_end rfl bs w w9 _ rfl rfl H9.out.2.1 H9.out.2.2.2.1 HE2.out
      · have hkb : ((k.toNat : Int) != 5) = true := by simp [hk]
        have HE2 := hid_mk (show gS bs = none from gS_bad H1.out.1 (fun x e _ h2 => by cases e; exact absurd (show (k.toNat : Int) = 5 by rw [show k = 5 from h2]; rfl) hk))
        go_wp2_with fail
        exact getS_end rfl bs w w1 _ rfl rfl HV.out H1.out.2.2 HE2.out
    · have hwb : decide (en = bs.length) = false := by simp [hw]
      have HE2 := hid_mk (show gS bs = none from gS_bad H1.out.1 (fun x e h1 _ => by rw [HEN.out] at h1; exact absurd h1 hw))
      go_wp2_with fail
      exact getS_end rfl bs w w1 _ rfl rfl HV.out H1.out.2.2 HE2.out
  · have hn : ((s.length : Int) != 1) = true := by simp; omega
    have HE := hid_mk (show gS bs = none from gS_bad H1.out.1 (fun x e => by rw [e] at hs; simp at hs))
    obtain ⟨c0, c1, c2, c3, cf⟩ := HV.out.all
    clear hs
    go_wp2_with fail
    exact getS_end rfl bs w w1 _ rfl rfl HV.out H1.out.2.2 HE.out
end Go.Proofs.YtmlppjmpoanlkaaGreatDoor.W
