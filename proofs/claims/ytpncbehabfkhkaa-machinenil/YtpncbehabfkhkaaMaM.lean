/- MachineNil: the walk. -/
import Derived.Test.YtpncbehabfkhkaaMaL
namespace Go.Proofs.Ytpncbehabfkhkaa.W
open Go.RowKit Go.Maps Go.WideMaps Go.WideElems
set_option linter.unusedVariables false
set_option linter.unusedSimpArgs false
set_option maxRecDepth 100000

/-- No machine, or one that nobody made. -/
def NoM (w : World) (p : Value) : Prop := p = .pointer none ∨ ∃ b, p = .pointer (some ⟨b, 0, none⟩) ∧ w.cell? ⟨b, 0, none⟩ = some (.int .i64 0)
theorem NoM.kept {w w' : World} {p : Value} (h : NoM w p) (hg : w.grownBy w' none) : NoM w' p := by
  rcases h with h | ⟨b, h, hc⟩
  · exact .inl h
  · exact .inr ⟨b, h, hg.cell hc (by simp)⟩
theorem made_no {w : World} {p : Value} (h : NoM w p) : Calls Try.prog 55 #[p] w fun e w' => e = .returned (.bool false) ∧ w' = w := by
  rcases h with rfl | ⟨b, rfl, hc⟩
  · exact made_nil w
  · exact made_at b 0 w hc
theorem NoM.shape {w : World} {p : Value} (h : NoM w p) : ∃ a, p = .pointer a := by
  rcases h with rfl | ⟨b, rfl, hc⟩
  · exact ⟨_, rfl⟩
  · exact ⟨_, rfl⟩
theorem apply_no {w : World} {p : Value} (h : NoM w p) (n : Int) (a : Option Addr) (l c : Nat) : Calls Try.prog 26 #[p, .int .i64 n, .slice a l c] w fun e w' => e = .returned (.tuple #[resV ⟨0, 0, 0⟩, .int .i64 1]) ∧ w.grownBy w' none := by
  rcases h with rfl | ⟨b, rfl, hc⟩
  · exact apply_nil n a l c w
  · exact apply_zero b n a l c w hc
theorem read_no {w : World} {p : Value} (h : NoM w p) (n k : Int) : Calls Try.prog 27 #[p, .int .i64 n, .int .i64 k] w fun e w' => e = .returned (.tuple #[.slice none 0 0, .int .i64 1]) ∧ w' = w := by
  have HM := hid_mk (made_no h)
  obtain ⟨a, rfl⟩ := h.shape
  clear h
  go_enter Try.func27, Try.ntmps27
  go_wp2_with (go_at_call 55; refine HM.out.mono ?_; rintro e w' ⟨rfl, hw⟩; rw [hw]; clear hw)
  go_ret2
  exact ⟨rfl, rfl⟩
theorem applied_no {w : World} {p : Value} (h : NoM w p) : Calls Try.prog 28 #[p] w fun e w' => e = .returned (.int .i64 0) ∧ w' = w := by
  have HM := hid_mk (made_no h)
  obtain ⟨a, rfl⟩ := h.shape
  clear h
  go_enter Try.func28, Try.ntmps28
  go_wp2_with (go_at_call 55; refine HM.out.mono ?_; rintro e w' ⟨rfl, hw⟩; rw [hw]; clear hw)
  go_ret
  exact ⟨rfl, rfl⟩
theorem start_no {w : World} {p : Value} (h : NoM w p) : Calls Try.prog 29 #[p] w fun e w' => e = .returned (.int .i64 0) ∧ w' = w := by
  have HM := hid_mk (made_no h)
  obtain ⟨a, rfl⟩ := h.shape
  clear h
  go_enter Try.func29, Try.ntmps29
  go_wp2_with (go_at_call 55; refine HM.out.mono ?_; rintro e w' ⟨rfl, hw⟩; rw [hw]; clear hw)
  go_ret
  exact ⟨rfl, rfl⟩
theorem next_no {w : World} {p : Value} (h : NoM w p) : Calls Try.prog 30 #[p] w fun e w' => e = .returned (.int .i64 0) ∧ w' = w := by
  have HM := hid_mk (made_no h)
  obtain ⟨a, rfl⟩ := h.shape
  clear h
  go_enter Try.func30, Try.ntmps30
  go_wp2_with (go_at_call 55; refine HM.out.mono ?_; rintro e w' ⟨rfl, hw⟩; rw [hw]; clear hw)
  go_ret
  exact ⟨rfl, rfl⟩
theorem sessions_no {w : World} {p : Value} (h : NoM w p) : Calls Try.prog 31 #[p] w fun e w' => e = .returned (.slice none 0 0) ∧ w' = w := by
  have HM := hid_mk (made_no h)
  obtain ⟨a, rfl⟩ := h.shape
  clear h
  go_enter Try.func31, Try.ntmps31
  go_wp2_with (go_at_call 55; refine HM.out.mono ?_; rintro e w' ⟨rfl, hw⟩; rw [hw]; clear hw)
  go_ret
  exact ⟨rfl, rfl⟩
theorem save_no {w : World} {p : Value} (h : NoM w p) : Calls Try.prog 25 #[p] w fun e w' => e = .returned (.slice none 0 0) ∧ w' = w := by
  have HM := hid_mk (made_no h)
  obtain ⟨a, rfl⟩ := h.shape
  clear h
  go_enter Try.func25, Try.ntmps25
  go_wp2_with (go_at_call 55; refine HM.out.mono ?_; rintro e w' ⟨rfl, hw⟩; rw [hw]; clear hw)
  go_ret
  exact ⟨rfl, rfl⟩

set_option maxHeartbeats 4000000 in
theorem machineNil_walk (n : Int) (a : Option Addr) (l c : Nat) (w : World) : Calls Try.prog 6 #[.int .i64 n, .slice a l c] w fun e w' => e = .returned (.bool true) ∧ w.grownBy w' none := by
  go_enter Try.func6, Try.ntmps6
  go_wp2_with fail
  go_loopg [5, 6] 2 (fun g pv iv W => ∃ k : Nat, k ≤ 2 ∧ g = 2 - k ∧ iv = .int .i64 k ∧ (∃ pa, pv = .pointer pa) ∧ Hid (NoM W pv ∧ w.grownBy W none))
  case atStart => exact ⟨0, by omega, rfl, rfl, ⟨none, rfl⟩, hid_mk ⟨.inl rfl, grown_refl _ _⟩⟩
  case round =>
    obtain ⟨k, hk, hgk, rfl, ⟨pa, rfl⟩, H⟩ := hrel
    rename World => W
    by_cases hlt : k < 2
    · have hlt' : (k : Int) < 2 := by omega
      go_wp2_with fail
      refine (apply_no H.out.1 n a l c).mono ?_
      rintro e w1 ⟨rfl, hg1⟩
      unfold resV
      have B1 := hid_mk (res_box w1 0 0 0)
      have G1 := hid_mk (And.intro (H.out.1.kept hg1) (grown_trans H.out.2 hg1))
      clear hg1 H
      go_wp2_with fail
      generalize (w1.alloc (.cells #[.int .i64 0, .int .i64 0, .int .i64 0] 52)) = w2 at *
      have H2 := hid_mk (show NoM w2 (.pointer pa) ∧ w.grownBy w2 none ∧ Blk w2 w1.heap.size #[.int .i64 0, .int .i64 0, .int .i64 0] 52 from ⟨G1.out.1.kept B1.out.2.1, grown_trans G1.out.2 B1.out.2.1, B1.out.1⟩)
      generalize w1.heap.size = p at *
      clear B1 G1
      refine (read_no H2.out.1 n 9).mono ?_
      rintro e w3 ⟨rfl, rfl⟩
      have d0 : w3.cell? ⟨p, 0, none⟩ = some (.int .i64 0) := by rw [H2.out.2.2.cell]; rfl
      have d1 : w3.cell? ⟨p, 1, none⟩ = some (.int .i64 0) := by rw [H2.out.2.2.cell]; rfl
      have d2 : w3.cell? ⟨p, 2, none⟩ = some (.int .i64 0) := by rw [H2.out.2.2.cell]; rfl
      have HN := hid_mk (fun mm => H2.out.1.kept (grown_drewN w3 mm none))
      go_wp2_with fail
      go_quiet ((first
        | (go_at_call 16; exact Calls.quiet_of_same (num_any _ _))
        | (go_at_call 28; exact Calls.quiet_of_same (applied_no (HN.out _)))
        | (go_at_call 29; exact Calls.quiet_of_same (start_no (HN.out _)))
        | (go_at_call 30; exact Calls.quiet_of_same (next_no (HN.out _)))
        | (go_at_call 31; exact Calls.quiet_of_same (sessions_no (HN.out _)))
        | (go_at_call 25; exact Calls.quiet_of_same (save_no (HN.out _)))))
      have G3 := hid_mk (grown_trans H2.out.2.1 (grown_drewN w3 nq none))
      generalize w3.drewN nq = w4 at *
      clear d0 d1 d2 HN H2
      have GA := hid_mk (show w4.grownBy (w4.alloc (.cells #[.int .i64 0, .int .i64 0, .int .i64 0, .slice none 0 0, .map none] 63)) none ∧ Blk (w4.alloc (.cells #[.int .i64 0, .int .i64 0, .int .i64 0, .slice none 0 0, .map none] 63)) w4.heap.size #[.int .i64 0, .int .i64 0, .int .i64 0, .slice none 0 0, .map none] 63 from ⟨World.grownBy_alloc _ _ _, heap_alloc_new _ _⟩)
      go_wp2_with fail
      go_roundg (2 - (k + 1))
      case measure => omega
      case rel => exact ⟨k + 1, by omega, rfl, by go_num, ⟨_, rfl⟩, hid_mk ⟨.inr ⟨_, rfl, by rw [GA.out.2.cell]; rfl⟩, grown_trans G3.out GA.out.1⟩⟩
    · have hk2 : k = 2 := by omega
      subst hk2
      go_wp2_with fail
      refine (knows_any W).mono ?_
      rintro e w1 ⟨rfl, hg1⟩
      have G := hid_mk (grown_trans H.out.2 hg1)
      clear hg1
      go_wp2_with fail
      go_ret
      exact ⟨rfl, G.out⟩

end Go.Proofs.Ytpncbehabfkhkaa.W
