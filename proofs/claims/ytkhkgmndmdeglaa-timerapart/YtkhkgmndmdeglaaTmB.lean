/- timer: New, Tick, Quiet, Limit, Fresh; of none. -/
import Derived.Test.YtkhkgmndmdeglaaTmA
namespace Go.Proofs.Ytkhkgmndmdeglaa
open Go.RowKit Go.Maps
set_option linter.unusedVariables false
set_option linter.unusedSimpArgs false
set_option maxRecDepth 100000

/-- A timer that may not be. -/
def NoT (w : World) (p : Value) : Prop := p = .pointer none ∨ ∃ b, p = .pointer (some ⟨b, 0, none⟩) ∧ w.cell? ⟨b, 2, none⟩ = some (.int .i64 0)
theorem NoT.shape {w : World} {p : Value} (h : NoT w p) : ∃ a, p = .pointer a := by
  rcases h with rfl | ⟨b, rfl, hc⟩
  · exact ⟨_, rfl⟩
  · exact ⟨_, rfl⟩
theorem NoT.kept {w w' : World} {p : Value} (h : NoT w p) (hg : w.grownBy w' none) : NoT w' p := by
  rcases h with h | ⟨b, h, hc⟩
  · exact .inl h
  · exact .inr ⟨b, h, hg.cell hc (by simp)⟩
theorem made_no {w : World} {p : Value} (h : NoT w p) : Calls Try.prog 19 #[p] w fun e w' => e = .returned (.bool false) ∧ w' = w := by
  rcases h with rfl | ⟨b, rfl, hc⟩
  · exact made_nil w
  · exact made_zero hc
theorem made_ok {w : World} {b p l s : Nat} (h : TB w b p l s) : Calls Try.prog 19 #[.pointer (some ⟨b, 0, none⟩)] w fun e w' => e = .returned (.bool true) ∧ w' = w := made_at h.cells.2.2.1 (by have := h.2.1; omega)
theorem reset_no {w : World} {p : Value} (h : NoT w p) (n : Int) : Calls Try.prog 12 #[p, .int .i64 n] w fun e w' => e = .returned (.int .i64 1) ∧ w' = w := by
  have HM := hid_mk (made_no h)
  obtain ⟨a, rfl⟩ := h.shape
  clear h
  go_enter Try.func12, Try.ntmps12
  go_wp2_with (go_at_call 19; refine HM.out.mono ?_; rintro e w' ⟨rfl, hw⟩; rw [hw]; clear hw)
  go_ret
  exact ⟨rfl, rfl⟩
theorem tick_no {w : World} {p : Value} (h : NoT w p) : Calls Try.prog 13 #[p] w fun e w' => e = .returned (.bool false) ∧ w' = w := by
  have HM := hid_mk (made_no h)
  obtain ⟨a, rfl⟩ := h.shape
  clear h
  go_enter Try.func13, Try.ntmps13
  go_wp2_with (go_at_call 19; refine HM.out.mono ?_; rintro e w' ⟨rfl, hw⟩; rw [hw]; clear hw)
  go_ret
  exact ⟨rfl, rfl⟩
theorem quiet_no {w : World} {p : Value} (h : NoT w p) : Calls Try.prog 14 #[p] w fun e w' => e = .returned (.int .i64 0) ∧ w' = w := by
  have HM := hid_mk (made_no h)
  obtain ⟨a, rfl⟩ := h.shape
  clear h
  go_enter Try.func14, Try.ntmps14
  go_wp2_with (go_at_call 19; refine HM.out.mono ?_; rintro e w' ⟨rfl, hw⟩; rw [hw]; clear hw)
  go_ret
  exact ⟨rfl, rfl⟩
theorem limit_no {w : World} {p : Value} (h : NoT w p) : Calls Try.prog 15 #[p] w fun e w' => e = .returned (.int .i64 0) ∧ w' = w := by
  have HM := hid_mk (made_no h)
  obtain ⟨a, rfl⟩ := h.shape
  clear h
  go_enter Try.func15, Try.ntmps15
  go_wp2_with (go_at_call 19; refine HM.out.mono ?_; rintro e w' ⟨rfl, hw⟩; rw [hw]; clear hw)
  go_ret
  exact ⟨rfl, rfl⟩
theorem fresh_no {w : World} {p : Value} (h : NoT w p) : Calls Try.prog 16 #[p] w fun e w' => e = .returned (.bool false) ∧ ∃ nq, w' = w.drewN nq := by
  have HM := hid_mk (fun nq => made_no (h.kept (grown_drewN w nq none)))
  obtain ⟨a, rfl⟩ := h.shape
  clear h
  go_enter Try.func16, Try.ntmps16
  go_wp2
  go_quiet ((go_at_call 19; exact Calls.quiet_of_same (HM.out _)))
  go_wp2
  go_ret
  exact ⟨rfl, _, rfl⟩
theorem quiet_any {w : World} {b p l s : Nat} (h : TB w b p l s) : Calls Try.prog 14 #[.pointer (some ⟨b, 0, none⟩)] w fun e w' => e = .returned (.int .i64 p) ∧ w' = w := by
  have HM := hid_mk (made_ok h)
  obtain ⟨c0, c1, c2, cf⟩ := h.cells
  clear h
  go_enter Try.func14, Try.ntmps14
  go_wp2_with (go_at_call 19; refine HM.out.mono ?_; rintro e w' ⟨rfl, hw⟩; rw [hw]; clear hw)
  go_ret
  exact ⟨rfl, rfl⟩
theorem limit_any {w : World} {b p l s : Nat} (h : TB w b p l s) : Calls Try.prog 15 #[.pointer (some ⟨b, 0, none⟩)] w fun e w' => e = .returned (.int .i64 l) ∧ w' = w := by
  have HM := hid_mk (made_ok h)
  obtain ⟨c0, c1, c2, cf⟩ := h.cells
  clear h
  go_enter Try.func15, Try.ntmps15
  go_wp2_with (go_at_call 19; refine HM.out.mono ?_; rintro e w' ⟨rfl, hw⟩; rw [hw]; clear hw)
  go_ret
  exact ⟨rfl, rfl⟩
theorem fresh_any {w : World} {b p l s : Nat} (h : TB w b p l s) : Calls Try.prog 16 #[.pointer (some ⟨b, 0, none⟩)] w fun e w' => e = .returned (.bool (decide (p < s))) ∧ ∃ nq, w' = w.drewN nq := by
  have HM := hid_mk (fun nq => made_ok (h.drew nq))
  have cs := fun nq => (h.drew nq).cells
  have c0 := fun nq => (cs nq).1
  have c2 := fun nq => (cs nq).2.2.1
  clear h cs
  by_cases hps : p < s
  · have h' : (p : Int) < s := by omega
    rw [show decide (p < s) = true from decide_eq_true hps]
    go_enter Try.func16, Try.ntmps16
    go_wp2
    go_quiet ((go_at_call 19; exact Calls.quiet_of_same (HM.out _)))
    go_wp2
    go_ret
    exact ⟨rfl, _, rfl⟩
  · have h' : ¬ (p : Int) < s := by omega
    rw [show decide (p < s) = false from decide_eq_false hps]
    have X := hid_mk (show decide (p < s) = false from decide_eq_false hps)
    go_enter Try.func16, Try.ntmps16
    go_wp2
    go_quiet ((go_at_call 19; exact Calls.quiet_of_same (HM.out _)))
    go_wp2
    go_ret
    exact ⟨rfl, _, rfl⟩
/-- A tick. -/
def tkd (p l : Nat) : Nat := if p < l then p + 1 else p
theorem tick_any {w : World} {b p l s : Nat} (h : TB w b p l s) : Calls Try.prog 13 #[.pointer (some ⟨b, 0, none⟩)] w fun e w' => e = .returned (.bool (decide (tkd p l = l))) ∧ TB w' b (tkd p l) l s ∧ w.grownBy w' (some b) := by
  have HM := hid_mk (made_ok h)
  have HS : Hid (Calls Try.prog 22 #[.pointer (some ⟨b, 0, none⟩)] w fun e w' => e = .returned (.tuple #[]) ∧ TB w' b (tkd p l) l s ∧ w.grownBy w' (some b)) := by
    by_cases hl : p < l
    · have := step_go h hl
      unfold tkd
      rw [if_pos hl]
      exact this
    · have e : p = l := by have := h.2.2.2.1; omega
      unfold tkd
      rw [if_neg hl]
      subst e
      exact step_stop h
  clear h
  generalize tkd p l = q at *
  go_enter Try.func13, Try.ntmps13
  go_wp2_with (first
    | (go_at_call 19; refine HM.out.mono ?_; rintro e w' ⟨rfl, hw⟩; rw [hw]; clear hw)
    | (go_at_call 22; refine HS.out.mono ?_; rintro e w2 ⟨rfl, hb, hg⟩; have H2 := hid_mk (And.intro hb hg); clear hb hg)
    | (go_at_call 23; refine (stopped_any H2.out.1).mono ?_; rintro e w3 ⟨rfl, nq, hw⟩; rw [hw]; clear hw))
  go_ret
  exact ⟨rfl, H2.out.1.drew _, grown_trans H2.out.2 (grown_drewN _ _ _)⟩
theorem num_any (n : Int) (w : World) : Calls Try.prog 9 #[.int .i64 n] w fun e w' => e = .returned (.int .i64 n) ∧ w' = w := by
  go_enter Try.func9, Try.ntmps9
  go_wp2
  go_ret
  exact ⟨rfl, rfl⟩
end Go.Proofs.Ytkhkgmndmdeglaa
