/- WireNil: its walk. -/
import Derived.Test.YtppnmhdmpgdieaaRdC
namespace Go.Proofs.Ytppnmhdmpgdieaa
open Go.RowKit Go.Maps
set_option linter.unusedVariables false
set_option linter.unusedSimpArgs false

/-- What a reader that nobody made answers. -/
structure Raw (w : World) (p : Value) : Prop where
  num : Calls Try.prog 33 #[p] w fun e w' => e = .returned (.int .i64 0) ∧ w' = w
  byt : Calls Try.prog 31 #[p] w fun e w' => e = .returned (.slice none 0 0) ∧ w' = w
  left : Calls Try.prog 35 #[p] w fun e w' => e = .returned (.int .i64 0) ∧ w' = w
  err : Calls Try.prog 37 #[p] w fun e w' => e = .returned (.int .i64 1) ∧ w' = w
  fin : Calls Try.prog 38 #[p] w fun e w' => e = .returned (.int .i64 1) ∧ w' = w
theorem raw_nil (w : World) : Raw w (.pointer none) := ⟨num_bad _ 1 rfl w (err_nil w), byt_bad _ 1 rfl w (err_nil w), left_nil w, err_nil w, end_bad _ w (err_nil w)⟩
theorem raw_zero (w : World) (b : Nat) (h : w.heap[b]? = some (.cells #[.int .i64 0, .bool false, .slice none 0 0] 71 (0, 0))) : Raw w (.pointer (some ⟨b, 0, none⟩)) := by
  have c1 : w.cell? ⟨b, 1, none⟩ = some (.bool false) := by rw [cell_of_row _ _ _ _ _ _ h]; rfl
  have c2 : w.cell? ⟨b, 2, none⟩ = some (.slice none 0 0) := by rw [cell_of_row _ _ _ _ _ _ h]; rfl
  have he := err_raw b w c1
  exact ⟨num_bad _ 1 rfl w he, byt_bad _ 1 rfl w he, left_raw b none 0 0 w c2, he, end_bad _ w he⟩

set_option maxHeartbeats 1000000 in
theorem nil_any (w : World) : Calls Try.prog 7 #[] w fun e w' => e = .returned (.bool true) ∧ w.grownBy w' none := by
  go_enter Try.func7, Try.ntmps7
  go_wp2
  go_loopw [1, 2] (fun rv iv wr => ∃ (i : Nat) (p : Option Addr), i ≤ 2 ∧ iv = .int .i64 i ∧ rv = .pointer p ∧ Hid (Raw wr rv ∧ w.grownBy wr none)) (fun _ iv _ => 2 - (intOf iv).toNat)
  case atStart => exact ⟨0, none, by omega, rfl, rfl, hid_mk ⟨raw_nil w, grown_refl _ _⟩⟩
  case round =>
    obtain ⟨i, p, hi, rfl, rfl, H⟩ := hrel
    by_cases h2 : i < 2
    · go_wp2_with (first
        | (go_at_call 33; refine H.out.1.num.mono ?_; rintro e wx ⟨rfl, rfl⟩)
        | (go_at_call 35; refine H.out.1.left.mono ?_; rintro e wx ⟨rfl, rfl⟩)
        | (go_at_call 31; refine H.out.1.byt.mono ?_; rintro e wx ⟨rfl, rfl⟩)
        | (go_at_call 37; refine H.out.1.err.mono ?_; rintro e wx ⟨rfl, rfl⟩)
        | (go_at_call 38; refine H.out.1.fin.mono ?_; rintro e wx ⟨rfl, rfl⟩)
        | (go_at_call 14; refine (num_any _ _).mono ?_; rintro e wx ⟨rfl, rfl⟩))
      go_roundw
      case rel => exact ⟨i + 1, _, by omega, by go_num, rfl, hid_mk ⟨raw_zero _ _ (heap_alloc_new _ _), grown_trans H.out.2 (World.grownBy_alloc _ _ _)⟩⟩
      case measure => simp [intOf]; omega
    · have hi2 : i = 2 := by omega
      subst hi2
      go_wp2_with (go_at_call 17; refine (knows_any _).mono ?_; rintro e w1 ⟨rfl, hg1⟩)
      go_ret
      exact ⟨rfl, grown_trans H.out.2 hg1⟩

end Go.Proofs.Ytppnmhdmpgdieaa
