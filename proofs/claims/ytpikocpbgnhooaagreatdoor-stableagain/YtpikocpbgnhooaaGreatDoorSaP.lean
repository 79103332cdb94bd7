/- The document's Right, Put. -/
import Derived.Test.YtpikocpbgnhooaaGreatDoorStI
import Derived.Test.YtpikocpbgnhooaaGreatDoorKa
import Derived.Test.YtpikocpbgnhooaaGreatDoorFRScan
import Derived.Test.YtpikocpbgnhooaaGreatDoorKf
namespace Go.Proofs.YtpikocpbgnhooaaGreatDoor.V
set_option maxRecDepth 100000
open Go.RowKit Go.Maps Go.WideMaps Go.WideElems
set_option linter.unusedVariables false
set_option linter.unusedSimpArgs false

theorem right_vote (t f : Int) (w : World) : Calls Tryz.prog 27 #[.agg #[.int .i64 t, .int .i64 f]] w fun e w' => e = .returned (.bool (mayB t f)) ∧ w.grownBy w' none := by
  by_cases h1 : 0 ≤ t
  · by_cases h2 : t < 1099511627776
    · by_cases h3 : -1 ≤ f
      · have e : mayB t f = decide (f < 16) := by simp [mayB, h1, h2, h3]
        rw [e]
        go_enter Tryz.func27, Tryz.ntmps27
        go_wp2_with fail
        go_ret
        exact ⟨rfl, World.grownBy_alloc _ _ _⟩
      · have e : mayB t f = false := by simp [mayB, h3]
        rw [e]
        go_enter Tryz.func27, Tryz.ntmps27
        go_wp2_with fail
        go_ret
        exact ⟨rfl, World.grownBy_alloc _ _ _⟩
    · have e : mayB t f = false := by simp [mayB, h2]
      rw [e]
      go_enter Tryz.func27, Tryz.ntmps27
      go_wp2_with fail
      go_ret
      exact ⟨rfl, World.grownBy_alloc _ _ _⟩
  · have e : mayB t f = false := by simp [mayB, h1]
    rw [e]
    go_enter Tryz.func27, Tryz.ntmps27
    go_wp2_with fail
    go_ret
    exact ⟨rfl, World.grownBy_alloc _ _ _⟩

theorem rnumber_int (z : Int) (w : World) (h0 : 0 ≤ z) (hz : z < 281474976710656) : Calls Tryz.prog 29 #[.int .i64 z] w fun e w' => ∃ v', e = .returned v' ∧ W.Own w' w.heap.size v' (W.numB z.toNat) ∧ w.grownBy w' none := by
  have := W.rnumber_any z.toNat w (by omega)
  rw [Int.toNat_of_nonneg h0] at this
  exact this

theorem rput_bad (t f : Int) (w : World) (hm : mayB t f = false) : Calls Tryz.prog 8 #[.agg #[.int .i64 t, .int .i64 f]] w fun e w' => e = .returned (.tuple #[.slice none 0 0, .int .i64 1]) ∧ w.grownBy w' none := by
  have HG := hid_mk (World.grownBy_alloc w (.cells #[.int .i64 t, .int .i64 f] 23) none)
  go_enter Tryz.func8, Tryz.ntmps8
  go_wp2_with fail
  refine (right_vote t f _).mono ?_
  rintro e w1 ⟨rfl, hg1⟩
  have H1 := hid_mk (grown_trans HG.out hg1)
  clear hg1 HG
  rw [hm]
  clear hm
  go_wp2_with fail
  go_ret2
  exact ⟨rfl, H1.out⟩

set_option maxHeartbeats 2000000 in
theorem rput_ok (t f : Int) (w : World) (hm : mayB t f = true) : Calls Tryz.prog 8 #[.agg #[.int .i64 t, .int .i64 f]] w (W.OkPost (voteB t f) 0 w) := by
  obtain ⟨h1, h2, h3, h4⟩ := mayB_iff.1 hm
  have HG : Hid (Blk (w.alloc (.cells #[.int .i64 t, .int .i64 f] 23)) w.heap.size #[.int .i64 t, .int .i64 f] 23 ∧ w.grownBy (w.alloc (.cells #[.int .i64 t, .int .i64 f] 23)) none) := hid_mk ⟨heap_alloc_new _ _, World.grownBy_alloc _ _ _⟩
  go_enter Tryz.func8, Tryz.ntmps8
  go_wp2_with fail
  generalize (w.alloc (.cells #[.int .i64 t, .int .i64 f] 23)) = w0 at *
  refine (right_vote t f w0).mono ?_
  rintro e w1 ⟨rfl, hg1⟩
  have H1 := hid_mk (And.intro (HG.out.1.kept hg1 (by simp)) (grown_trans HG.out.2 hg1))
  rw [hm]
  clear hg1 HG hm
  have KB : ∀ W0, w1.grownBy W0 none → Blk W0 w.heap.size #[.int .i64 t, .int .i64 f] 23 := fun W0 hW => H1.out.1.kept hW (by simp)
  have HC : ∀ W0, Blk W0 w.heap.size #[.int .i64 t, .int .i64 f] 23 → W0.cell? ⟨w.heap.size, 0, none⟩ = some (.int .i64 t) ∧ W0.cell? ⟨w.heap.size, 1, none⟩ = some (.int .i64 f) := fun W0 hb => by
    exact ⟨by rw [hb.cell]; rfl, by rw [hb.cell]; rfl⟩
  go_upto_region 3 with fail
  refine W.wp_region_mix [(0, true), (1, true), (3, true), (4, true), (5, true), (2, false), (6, false), (7, false), (8, false), (9, true), (10, true), (11, true), (12, true), (13, true)] (W.at0 w1 (fun W0 => Blk W0 w.heap.size #[.int .i64 t, .int .i64 f] 23)) (by kernel_rfl) (by kernel_rfl) rfl (by kernel_rfl) (W.shut_at0 (fun m => KB _ (grown_drewN _ m none))) ⟨1, rfl⟩ ?_
  repeat (first
    | (refine W.mix_rd1 rfl rfl (fun K hK => ?_); apply Exists.intro; refine ⟨fun W0 hW => ?_, ?_⟩; (obtain ⟨f0, f1⟩ := HC W0 hW; go_simp; rfl); (go_simp; refine hK _ _ ?_; clear hK K)))
  clear HC
  refine W.mix_call rfl rfl 29 #[.int .i64 t] (fun W0 => by go_simp) ?_
  rintro W0 ⟨m2, rfl⟩
  refine (rnumber_int t (w1.drewN m2) h1 (by omega)).mono ?_
  rintro e w2 ⟨v2, rfl, ho2, hg2⟩
  have G2 := hid_mk (grown_trans (grown_drewN w1 m2 none) hg2)
  have H2 := hid_mk (ho2.base (B' := w1.heap.size) (Nat.le_refl _))
  clear ho2 hg2
  refine ⟨_, rfl, W.at0 w2 (fun W0 => Blk W0 w.heap.size #[.int .i64 t, .int .i64 f] 23), ⟨0, rfl⟩, W.shut_at0 (fun m => KB _ (grown_trans (G2.out) (grown_drewN _ m none))), fun _ h => h, ?_⟩
  refine W.mix_call rfl rfl 29 #[.int .i64 (f + 1)] (fun W0 => by go_simp; exact W.wrap_id_z _ (by omega) (by omega)) ?_
  rintro W0 ⟨m3, rfl⟩
  refine (rnumber_int (f + 1) (w2.drewN m3) (by omega) (by omega)).mono ?_
  rintro e w3 ⟨v3, rfl, ho3, hg3⟩
  have G3 := hid_mk (grown_trans (grown_drewN w2 m3 none) hg3)
  have H3 := hid_mk ho3.byt
  clear ho3 hg3
  refine ⟨_, rfl, W.at0 w3 (fun W0 => Blk W0 w.heap.size #[.int .i64 t, .int .i64 f] 23), ⟨0, rfl⟩, W.shut_at0 (fun m => KB _ (grown_trans (grown_trans G2.out G3.out) (grown_drewN _ m none))), fun _ h => h, ?_⟩
  have HL := hid_mk (show (W.numB t.toNat).length + (W.numB (f + 1).toNat).length ≤ 14 by
    have := W.numB_le (n := t.toNat) (by omega)
    have := W.numB_le (n := (f + 1).toNat) (by omega)
    omega)
  refine W.mix_append w1 w3 _ rfl rfl (.tmp 12) (.tmp 16) rfl (grown_trans G2.out G3.out) v2 (W.numB t.toNat) rfl (H2.out.kept G3.out (.inl rfl)) (W.numB (f + 1).toNat) v3 rfl H3.out (by have := HL.out; omega) ?_
  intro a4 c4 w4 P4
  have HE := hid_mk (show voteB t f = F.putB 4 (W.numB t.toNat ++ W.numB (f + 1).toNat) from rfl)
  have HY := hid_mk P4.out.1.byt
  have G4 := hid_mk (grown_trans H1.out.2 P4.out.2.1)
  have HK4 := hid_mk (show ∀ m, Blk (w4.drewN m) w.heap.size #[.int .i64 t, .int .i64 f] 23 from fun m => KB _ (grown_trans P4.out.2.1 (grown_drewN _ m none)))
  have HLL := hid_mk (show (W.numB t.toNat ++ W.numB (f + 1).toNat).length ≤ 14 by rw [List.length_append]; exact HL.out)
  rw [← List.length_append] at HY
  rw [← List.length_append]
  generalize W.numB t.toNat ++ W.numB (f + 1).toNat = D at *
  clear P4 H2 H3
  refine ⟨W.at0 w4 (fun W0 => Blk W0 w.heap.size #[.int .i64 t, .int .i64 f] 23), ⟨0, rfl⟩, W.shut_at0 HK4.out, fun _ h => h, ?_⟩
  refine W.mix_call rfl rfl 28 #[.int .i64 4, .slice a4 D.length c4] (fun W0 => by go_simp) ?_
  rintro W0 ⟨m5, rfl⟩
  refine (F.rput_ok 4 _ D (w4.drewN m5) (by omega) (by omega) (F.Byt.kept HY.out (grown_drewN _ _ none)) (by have := HLL.out; omega)).mono ?_
  rintro e w5 ⟨v5, rfl, ho5, hg5⟩
  have H5 := hid_mk (show W.Own w5 w.heap.size v5 (F.putB 4 D) ∧ w.grownBy w5 none from ⟨W.Own.base ho5 G4.out.size, grown_trans G4.out (grown_trans (grown_drewN _ _ none) hg5)⟩)
  have HK5 := hid_mk (show ∀ m, Blk (w5.drewN m) w.heap.size #[.int .i64 t, .int .i64 f] 23 from fun m => ((HK4.out m5).kept hg5 (by simp)).kept (grown_drewN _ m none) (by simp))
  clear ho5 hg5
  refine ⟨_, rfl, W.at0 w5 (fun W0 => Blk W0 w.heap.size #[.int .i64 t, .int .i64 f] 23), ⟨0, rfl⟩, W.shut_at0 HK5.out, fun _ h => h, ?_⟩
  obtain ⟨a5, c5, rfl⟩ := H5.out.1.len
  repeat (first
    | (refine W.mix_rd1 rfl rfl (fun K hK => ?_); apply Exists.intro; refine ⟨fun W0 hW => ?_, ?_⟩; (go_simp; rfl); (go_simp; refine hK _ _ ?_; clear hK K)))
  refine W.mix_nil ?_
  rintro W0 ⟨m6, rfl⟩
  go_wp2_with fail
  go_ret2
  unfold W.OkPost
  rw [HE.out]
  exact ⟨a5, c5, rfl, H5.out.1.kept (grown_drewN _ _ none) (.inl rfl), grown_trans H5.out.2 (grown_drewN _ _ none)⟩

end Go.Proofs.YtpikocpbgnhooaaGreatDoor.V
