/- A reader: Number, Bytes, New. -/
import Derived.Test.YtckblgpalbedhaaWRdB
namespace Go.Proofs.Ytckblgpalbedhaa.W
open Go.RowKit Go.Maps
set_option linter.unusedVariables false
set_option linter.unusedSimpArgs false

theorem num_bad (p : Value) (e0 : Int) (he : (e0 == 0) = false) (w : World) (h : Calls Try.prog 70 #[p] w fun e w' => e = .returned (.int .i64 e0) ∧ w' = w) : Calls Try.prog 67 #[p] w fun e w' => e = .returned (.int .i64 0) ∧ w' = w := by
  have H := hid_mk h
  clear h
  go_enter Try.func67, Try.ntmps67
  go_wp2_with fail
  refine H.out.mono ?_
  rintro e w' ⟨rfl, rfl⟩
  go_wp2
  go_ret
  exact ⟨rfl, rfl⟩
theorem readN_bad {s : St} (h : s.e ≠ 0) : readN s = (0, s) := by unfold readN; rw [if_pos h]
theorem readN_ok {s : St} (h : s.e = 0) : readN s = ((numR s.rest).1, ⟨s.rest.drop (numR s.rest).2.1, (numR s.rest).2.2⟩) := by unfold readN; rw [if_neg (by omega)]
theorem readB_bad {s : St} (h : s.e ≠ 0) : readB s = ([], s) := by unfold readB; rw [if_pos h]
theorem readB_ok {s : St} (h : s.e = 0) : readB s = ((bytR s.rest).1, ⟨s.rest.drop (bytR s.rest).2.1, (bytR s.rest).2.2⟩) := by unfold readB; rw [if_neg (by omega)]

set_option maxHeartbeats 1000000 in
theorem num_rd (M N b : Nat) (s : St) (w : World) (h : Rd w M N b s) (hL : s.rest.length ≤ 140737488355328) :
    Calls Try.prog 67 #[.pointer (some ⟨b, 0, none⟩)] w fun e w' => e = .returned (.int .i64 (readN s).1) ∧ Rd w' M N b (readN s).2 ∧ w.grownBy w' (some b) := by
  by_cases he : s.e ≠ 0
  · rw [readN_bad he]
    refine (num_bad _ s.e (by simp; omega) w (err_rd M N b s w h)).mono ?_
    rintro e w' ⟨rfl, rfl⟩
    exact ⟨rfl, h, grown_refl _ _⟩
  · have he0 : s.e = 0 := by omega
    rw [readN_ok he0]
    obtain ⟨a, c, c0, c1, c2, hy, hb⟩ := h.cells
    have H := hid_mk h
    have HY := hid_mk hy
    have HN := hid_mk (numV_of (l := s.rest) (n := (numR s.rest).1) (s := (numR s.rest).2.1) (e := (numR s.rest).2.2) rfl)
    have HE := hid_mk (err_rd M N b s w h)
    rw [he0] at HE
    have HP := hid_mk (pass_any M N b s (numR s.rest).2.1 (numR s.rest).2.2 w h he0 (numR_size _))
    generalize (numR s.rest).1 = n at *
    generalize (numR s.rest).2.1 = m at *
    generalize (numR s.rest).2.2 = er at *
    clear h hy hb c0
    go_enter Try.func67, Try.ntmps67
    go_wp2_with (first
      | (go_at_call 70; refine HE.out.mono ?_; rintro e wx ⟨rfl, rfl⟩)
      | (go_at_call 71; refine (number_any _ s.rest _ HY.out.byt hL).mono ?_; rintro e wy ⟨rfl, rfl⟩; rw [HN.out])
      | (go_at_call 72; refine HP.out.mono ?_; rintro e w3 ⟨rfl, hr3, hg3⟩; have H3 := hid_mk (And.intro hr3 hg3); clear hr3 hg3))
    go_ret
    exact ⟨rfl, H3.out.1, H3.out.2⟩

theorem Own.but {w w' : World} {B r : Nat} {v : Value} {l : List UInt8} (h : Own w B v l) (hg : w.grownBy w' (some r)) (hr : r < B) : Own w' B v l := h.kept_low hg hr

/-! ### Made -/
theorem over_any (M N : Nat) (v : Value) (l : List UInt8) (w : World) (h : BytIn w M N v l) (hM : M ≤ w.heap.size) (hN : N ≤ w.heap.size) :
    Calls Try.prog 66 #[v] w fun e w' => e = .returned (.pointer (some ⟨w.heap.size, 0, none⟩)) ∧ Rd w' M (w.heap.size + 1) w.heap.size ⟨l, 0⟩ ∧ w.grownBy w' none ∧ w'.heap.size = w.heap.size + 1 := by
  obtain ⟨a, c, rfl⟩ := h.byt.len
  have H := hid_mk h
  clear h
  go_enter Try.func66, Try.ntmps66
  go_wp2
  go_ret
  refine ⟨rfl, ⟨hM, by omega, _, heap_alloc_new _ _, (H.out.kept (World.grownBy_alloc _ _ none) (fun r hr => by cases hr)).wide (Nat.le_refl _) (by omega)⟩, World.grownBy_alloc _ _ _, by simp⟩

end Go.Proofs.Ytckblgpalbedhaa.W
