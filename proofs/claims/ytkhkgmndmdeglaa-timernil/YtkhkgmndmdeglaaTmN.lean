/- TimerNil: the walk. -/
import Derived.Test.YtkhkgmndmdeglaaTmC
namespace Go.Proofs.Ytkhkgmndmdeglaa
open Go.RowKit Go.Maps
set_option linter.unusedVariables false
set_option linter.unusedSimpArgs false
set_option maxRecDepth 100000

set_option maxHeartbeats 1000000 in
theorem timerNil_walk (n : Int) (w : World) : Calls Try.prog 4 #[.int .i64 n] w fun e w' => e = .returned (.bool true) ∧ w.grownBy w' none := by
  go_enter Try.func4, Try.ntmps4
  go_wp2_with fail
  go_loopg [3, 4] 2 (fun g pv iv W => ∃ k : Nat, k ≤ 2 ∧ g = 2 - k ∧ iv = .int .i64 k ∧ (∃ pa, pv = .pointer pa) ∧ Hid (NoT W pv ∧ w.grownBy W none))
  case atStart => exact ⟨0, by omega, rfl, rfl, ⟨none, rfl⟩, hid_mk ⟨.inl rfl, grown_refl _ _⟩⟩
  case round =>
    obtain ⟨k, hk, hgk, rfl, ⟨pa, rfl⟩, H⟩ := hrel
    rename World => W
    by_cases hlt : k < 2
    · have hlt' : (k : Int) < 2 := by omega
      go_wp2_with (first
        | (go_at_call 12; refine (reset_no H.out.1 n).mono ?_; rintro e w' ⟨rfl, hw⟩; rw [hw]; clear hw)
        | (go_at_call 9; refine (num_any _ _).mono ?_; rintro e w' ⟨rfl, hw⟩; rw [hw]; clear hw)
        | (go_at_call 13; refine (tick_no H.out.1).mono ?_; rintro e w' ⟨rfl, hw⟩; rw [hw]; clear hw)
        | (go_at_call 14; refine (quiet_no H.out.1).mono ?_; rintro e w' ⟨rfl, hw⟩; rw [hw]; clear hw)
        | (go_at_call 15; refine (limit_no H.out.1).mono ?_; rintro e w' ⟨rfl, hw⟩; rw [hw]; clear hw)
        | (go_at_call 16; refine (fresh_no H.out.1).mono ?_; rintro e w' ⟨rfl, nq, hw⟩; rw [hw]; clear hw))
      have GA := hid_mk (show (W.drewN nq).grownBy ((W.drewN nq).alloc (.cells #[.int .i64 0, .int .i64 0, .int .i64 0] 40)) none ∧ Blk ((W.drewN nq).alloc (.cells #[.int .i64 0, .int .i64 0, .int .i64 0] 40)) W.heap.size #[.int .i64 0, .int .i64 0, .int .i64 0] 40 from ⟨World.grownBy_alloc _ _ _, heap_alloc_new (W.drewN nq) _⟩)
      go_roundg (2 - (k + 1))
      case measure => omega
      case rel => exact ⟨k + 1, by omega, rfl, by go_num, ⟨_, rfl⟩, hid_mk ⟨.inr ⟨_, rfl, by rw [GA.out.2.cell]; rfl⟩, grown_trans H.out.2 (grown_trans (grown_drewN _ _ _) GA.out.1)⟩⟩
    · have hk2 : k = 2 := by omega
      subst hk2
      go_wp2_with fail
      refine (knows_any W).mono ?_
      rintro e w1 ⟨rfl, hg1⟩
      have G := hid_mk (grown_trans H.out.2 hg1)
      clear hg1
      go_wp2_with fail
      go_ret
      exact ⟨rfl, G.out⟩
end Go.Proofs.Ytkhkgmndmdeglaa
