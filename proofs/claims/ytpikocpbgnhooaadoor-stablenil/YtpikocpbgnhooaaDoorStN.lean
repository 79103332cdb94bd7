/- StableNil: the walk. -/
import Derived.Test.YtpikocpbgnhooaaDoorStI
namespace Go.Proofs.YtpikocpbgnhooaaDoor.V
set_option maxRecDepth 100000
open Go.RowKit Go.Maps Go.WideMaps Go.WideElems
set_option linter.unusedVariables false
set_option linter.unusedSimpArgs false

theorem right_vote (t f : Int) (w : World) : Calls Tryd.prog 9 #[.agg #[.int .i64 t, .int .i64 f]] w fun e w' => e = .returned (.bool (mayB t f)) ∧ w.grownBy w' none := by
  by_cases h1 : 0 ≤ t
  · by_cases h2 : t < 1099511627776
    · by_cases h3 : -1 ≤ f
      · have e : mayB t f = decide (f < 16) := by simp [mayB, h1, h2, h3]
        rw [e]
        go_enter Tryd.func9, Tryd.ntmps9
        go_wp2_with fail
        go_ret
        exact ⟨rfl, World.grownBy_alloc _ _ _⟩
      · have e : mayB t f = false := by simp [mayB, h3]
        rw [e]
        go_enter Tryd.func9, Tryd.ntmps9
        go_wp2_with fail
        go_ret
        exact ⟨rfl, World.grownBy_alloc _ _ _⟩
    · have e : mayB t f = false := by simp [mayB, h2]
      rw [e]
      go_enter Tryd.func9, Tryd.ntmps9
      go_wp2_with fail
      go_ret
      exact ⟨rfl, World.grownBy_alloc _ _ _⟩
  · have e : mayB t f = false := by simp [mayB, h1]
    rw [e]
    go_enter Tryd.func9, Tryd.ntmps9
    go_wp2_with fail
    go_ret
    exact ⟨rfl, World.grownBy_alloc _ _ _⟩

set_option maxHeartbeats 8000000 in
theorem stableNil_walk (t f : Int) (w : World) (ht : F.Tab w) : Calls Tryd.prog 3 #[.agg #[.int .i64 t, .int .i64 f]] w fun e w' => e = .returned (.bool true) ∧ w.grownBy w' none := by
  have HT := hid_mk ht
  clear ht
  have HA : Hid (Blk (w.alloc (.cells #[.int .i64 t, .int .i64 f] 23)) w.heap.size #[.int .i64 t, .int .i64 f] 23 ∧ w.grownBy (w.alloc (.cells #[.int .i64 t, .int .i64 f] 23)) none) := hid_mk ⟨heap_alloc_new _ _, World.grownBy_alloc _ _ _⟩
  go_enter Tryd.func3, Tryd.ntmps3
  go_wp2_with fail
  generalize (w.alloc (.cells #[.int .i64 t, .int .i64 f] 23)) = w0 at *
  go_loopw [3, 4] (fun dv iv W1 => ∃ k : Nat, k ≤ 2 ∧ iv = .int .i64 k ∧ ((k = 0 ∧ dv = .pointer none) ∨ (0 < k ∧ ∃ b, dv = .pointer (some ⟨b, 0, none⟩) ∧ Hid (W1.cell? ⟨b, 3, none⟩ = some (.map none)))) ∧ Hid (w0.grownBy W1 none)) (fun _ iv _ => 2 - (intOf iv).toNat)
  case atStart => exact ⟨0, by omega, rfl, .inl ⟨rfl, rfl⟩, hid_mk (grown_refl _ _)⟩
  case round =>
    obtain ⟨k, hk, rfl, hd, G1⟩ := hrel
    rename World => w1
    rcases hd with ⟨rfl, rfl⟩ | ⟨hk0, b, rfl, HZ⟩
    · clear hk
      go_wp2_with fail
      refine (load_nil w1).mono ?_
      rintro e w2 ⟨rfl, hg2⟩
      have HX : Hid (VB (w2.alloc (.cells #[.int .i64 0, .int .i64 0] 25)) w2.heap.size 0 0 ∧ w1.grownBy (w2.alloc (.cells #[.int .i64 0, .int .i64 0] 25)) none) := hid_mk ⟨heap_alloc_new _ _, grown_trans hg2 (World.grownBy_alloc _ _ none)⟩
      clear hg2
      go_upto_region 6 with fail
      generalize (w2.alloc (.cells #[.int .i64 0, .int .i64 0] 25)) = w3 at *
      generalize w2.heap.size = xb at *
      obtain ⟨c0, c1, _⟩ := HX.out.1.all
      have hG3 := hid_mk (grown_trans HA.out.2 (grown_trans G1.out HX.out.2))
      go_wp2_with (first | (go_at_call 6; refine (num_any 1 _).mono ?_; rintro e w' ⟨rfl, hw⟩; rw [hw]; clear hw) | (go_at_call 7; refine (save_nil 1 0 w3 (HT.out.kept hG3.out)).mono ?_; rintro e w4 ⟨rfl, hg4⟩; have HG4 := hid_mk hg4; clear hg4))
      refine ⟨⟨1, by omega, rfl, .inr ⟨by omega, w4.heap.size, rfl, hid_mk ?_⟩, hid_mk ?_⟩, by simp [intOf]⟩
      · rw [Blk.cell (heap_alloc_new _ _)]; rfl
      · exact grown_trans G1.out (grown_trans HX.out.2 (grown_trans HG4.out (World.grownBy_alloc _ _ none)))
    · have hk2 : k = 1 ∨ k = 2 := by omega
      clear hk hk0
      rcases hk2 with rfl | rfl
      ·
        go_wp2_with fail
        refine (load_zero b w1 HZ.out).mono ?_
        rintro e w2 ⟨rfl, hg2⟩
        have HX : Hid (VB (w2.alloc (.cells #[.int .i64 0, .int .i64 0] 25)) w2.heap.size 0 0 ∧ w1.grownBy (w2.alloc (.cells #[.int .i64 0, .int .i64 0] 25)) none) := hid_mk ⟨heap_alloc_new _ _, grown_trans hg2 (World.grownBy_alloc _ _ none)⟩
        clear hg2
        go_upto_region 6 with fail
        generalize (w2.alloc (.cells #[.int .i64 0, .int .i64 0] 25)) = w3 at *
        generalize w2.heap.size = xb at *
        obtain ⟨c0, c1, _⟩ := HX.out.1.all
        have hG3 := hid_mk (grown_trans HA.out.2 (grown_trans G1.out HX.out.2))
        go_wp2_with (first | (go_at_call 6; refine (num_any 1 _).mono ?_; rintro e w' ⟨rfl, hw⟩; rw [hw]; clear hw) | (go_at_call 7; refine (save_zero b 1 0 w3 (HT.out.kept hG3.out) (HX.out.2.cell HZ.out (by simp))).mono ?_; rintro e w4 ⟨rfl, hg4⟩; have HG4 := hid_mk hg4; clear hg4))
        refine ⟨⟨2, by omega, rfl, .inr ⟨by omega, w4.heap.size, rfl, hid_mk ?_⟩, hid_mk ?_⟩, by simp [intOf]⟩
        · rw [Blk.cell (heap_alloc_new _ _)]; rfl
        · exact grown_trans G1.out (grown_trans HX.out.2 (grown_trans HG4.out (World.grownBy_alloc _ _ none)))
      · have G2 := hid_mk (grown_trans HA.out.2 G1.out)
        go_wp2_with fail
        refine (disk_any w1).mono ?_
        rintro e w2 ⟨b2, m, rfl, hI, hF, hfu, hg⟩
        have H2 := hid_mk (And.intro hI (And.intro hF (And.intro hfu (And.intro hg (show Blk w2 w.heap.size #[.int .i64 t, .int .i64 f] 23 from HA.out.1.kept (grown_trans G1.out hg) (by simp))))))
        clear hI hF hfu hg
        have c0 : w2.cell? ⟨w.heap.size, 0, none⟩ = some (.int .i64 t) := by rw [H2.out.2.2.2.2.cell]; rfl
        have c1 : w2.cell? ⟨w.heap.size, 1, none⟩ = some (.int .i64 f) := by rw [H2.out.2.2.2.2.cell]; rfl
        go_wp2_with fail
        clear c0 c1
        cases hm : mayB t f with
        | true =>
          refine (save_disk t f w2 (HT.out.kept (grown_trans G2.out H2.out.2.2.2.1)) 0 b2 _ m H2.out.1 (by omega) hm).mono ?_
          rintro e w3 ⟨n, rfl, m3, hS, hI, hk⟩
          obtain rfl : n = 0 := by
            rcases save_pure (Nat.le_trans (voteB_len hm) (by omega)) H2.out.2.1 hS with ⟨e, _⟩ | ⟨_, h, _⟩
            · exact e
            · exact absurd H2.out.2.2.1 h
          have H3 := hid_mk (show w1.grownBy w3 none from ((Keeps.of_none (F := fun k => w1.heap.size ≤ k) H2.out.2.2.2.1).step hk).grown)
          clear hS hI hk
          have HB3 := hid_mk (show Blk w3 w.heap.size #[.int .i64 t, .int .i64 f] 23 from HA.out.1.kept (grown_trans G1.out H3.out) (by simp))
          have c0 : w3.cell? ⟨w.heap.size, 0, none⟩ = some (.int .i64 t) := by rw [HB3.out.cell]; rfl
          have c1 : w3.cell? ⟨w.heap.size, 1, none⟩ = some (.int .i64 f) := by rw [HB3.out.cell]; rfl
          have HK := hid_mk (fun W1 (hW : w3.grownBy W1 none) => knows_any W1 (HT.out.kept (grown_trans G2.out (grown_trans H3.out hW))))
          have HG := hid_mk (grown_trans G2.out H3.out)
          have HR := hid_mk (right_vote t f w3)
          rw [hm] at HR
          clear hm
          go_wp2_with (first | (go_at_call 6; refine (num_any 0 _).mono ?_; rintro e w' ⟨rfl, hw⟩; rw [hw]; clear hw) | (go_at_call 9; refine HR.out.mono ?_; rintro e w4 ⟨rfl, hg4⟩; have HG4 := hid_mk hg4; clear hg4 c0 c1) | (go_at_call 10; refine (HK.out _ HG4.out).mono ?_; rintro e w5 ⟨rfl, hg5⟩; have HG5 := hid_mk hg5; clear hg5))
          go_ret
          exact ⟨rfl, grown_trans HG.out (grown_trans HG4.out HG5.out)⟩
        | false =>
          refine (save_bad _ t f w2 hm).mono ?_
          rintro e w3 ⟨rfl, hg⟩
          have H3 := hid_mk (show w1.grownBy w3 none from grown_trans H2.out.2.2.2.1 hg)
          clear hg
          have HB3 := hid_mk (show Blk w3 w.heap.size #[.int .i64 t, .int .i64 f] 23 from HA.out.1.kept (grown_trans G1.out H3.out) (by simp))
          have c0 : w3.cell? ⟨w.heap.size, 0, none⟩ = some (.int .i64 t) := by rw [HB3.out.cell]; rfl
          have c1 : w3.cell? ⟨w.heap.size, 1, none⟩ = some (.int .i64 f) := by rw [HB3.out.cell]; rfl
          have HK := hid_mk (fun W1 (hW : w3.grownBy W1 none) => knows_any W1 (HT.out.kept (grown_trans G2.out (grown_trans H3.out hW))))
          have HG := hid_mk (grown_trans G2.out H3.out)
          have HR := hid_mk (right_vote t f w3)
          rw [hm] at HR
          clear hm
          go_wp2_with (first | (go_at_call 6; refine (num_any 1 _).mono ?_; rintro e w' ⟨rfl, hw⟩; rw [hw]; clear hw) | (go_at_call 9; refine HR.out.mono ?_; rintro e w4 ⟨rfl, hg4⟩; have HG4 := hid_mk hg4; clear hg4 c0 c1) | (go_at_call 10; refine (HK.out _ HG4.out).mono ?_; rintro e w5 ⟨rfl, hg5⟩; have HG5 := hid_mk hg5; clear hg5))
          go_ret
          exact ⟨rfl, grown_trans HG.out (grown_trans HG4.out HG5.out)⟩

end Go.Proofs.YtpikocpbgnhooaaDoor.V
