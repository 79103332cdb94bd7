/- timer: New; knows. -/
import Derived.Test.YtkhkgmndmdeglaaTmB
namespace Go.Proofs.Ytkhkgmndmdeglaa
open Go.RowKit Go.Maps
set_option linter.unusedVariables false
set_option linter.unusedSimpArgs false
set_option maxRecDepth 100000

theorem heap_alloc_new (w : World) (o : Obj) : (w.alloc o).heap[w.heap.size]? = some o := by show (w.heap.push o)[w.heap.size]? = some o; exact Array.getElem?_push_size
theorem new_bad (n d : Int) (w : World) (h : n < 1 ∨ 1000 < n) : Calls Try.prog 7 #[.int .i64 n, .int .i64 d] w fun e w' => e = .returned (.tuple #[.pointer none, .int .i64 1]) ∧ w' = w := by
  by_cases h1 : n < 1
  · clear h
    go_enter Try.func7, Try.ntmps7
    go_wp2
    go_ret2
    exact ⟨rfl, rfl⟩
  · have h2 : 1000 < n := by omega
    clear h
    go_enter Try.func7, Try.ntmps7
    go_wp2
    go_ret2
    exact ⟨rfl, rfl⟩
theorem new_ok (s : Nat) (d : Int) (w : World) (h1 : 1 ≤ s) (h2 : s ≤ 1000) : Calls Try.prog 7 #[.int .i64 s, .int .i64 d] w fun e w' => ∃ b, e = .returned (.tuple #[.pointer (some ⟨b, 0, none⟩), .int .i64 0]) ∧ TB w' b 0 (s + rst d s) s ∧ w.heap.size ≤ b ∧ w.grownBy w' none := by
  have h1' : ¬ (s : Int) < 1 := by omega
  have h2' : ¬ 1000 < (s : Int) := by omega
  have HA := hid_mk (show TR (w.alloc (.cells #[.int .i64 0, .int .i64 0, .int .i64 s] 40)) w.heap.size 0 0 s ∧ w.grownBy (w.alloc (.cells #[.int .i64 0, .int .i64 0, .int .i64 s] 40)) none from ⟨⟨heap_alloc_new _ _, h1, h2⟩, World.grownBy_alloc _ _ _⟩)
  clear h1 h2
  go_enter Try.func7, Try.ntmps7
  go_wp2_with (go_at_call 12; refine (reset_any HA.out.1 d).mono ?_; rintro e w2 ⟨rfl, hb, hg⟩; have H2 := hid_mk (And.intro hb hg); clear hb hg)
  go_ret2
  exact ⟨_, rfl, H2.out.1, Nat.le_refl _, grown_new HA.out.2 H2.out.2 (Nat.le_refl _)⟩
theorem rst1023 : 10 + rst 23 10 = 13 := by decide
theorem knows_any (w : World) : Calls Try.prog 10 #[] w fun e w' => e = .returned (.bool true) ∧ w.grownBy w' none := by
  go_enter Try.func10, Try.ntmps10
  go_wp2_with fail
  refine (new_ok 10 23 w (by omega) (by omega)).mono ?_
  rintro e w1 ⟨b, rfl, hb, hlt, hg⟩
  rw [rst1023] at hb
  have HL := hid_mk (limit_any hb)
  have HF := hid_mk (fresh_any hb)
  rw [show decide (0 < 10) = true by decide] at HF
  have HT := hid_mk (fun nq => tick_any (hb.drew nq))
  rw [show decide (tkd 0 13 = 13) = false by decide, show tkd 0 13 = 1 by decide] at HT
  have G := hid_mk (And.intro hlt hg)
  clear hb hlt hg
  go_wp2_with (first
    | (go_at_call 9; refine (num_any _ _).mono ?_; rintro e w' ⟨rfl, hw⟩; rw [hw]; clear hw)
    | (go_at_call 15; refine HL.out.mono ?_; rintro e w' ⟨rfl, hw⟩; rw [hw]; clear hw)
    | (go_at_call 16; refine HF.out.mono ?_; rintro e w' ⟨rfl, nq, hw⟩; rw [hw]; clear hw)
    | (go_at_call 13; refine (HT.out _).mono ?_; rintro e w2 ⟨rfl, hb2, hg2⟩; have H2 := hid_mk (And.intro hb2 hg2); clear hb2 hg2)
    | (go_at_call 14; refine (quiet_any H2.out.1).mono ?_; rintro e w' ⟨rfl, hw⟩; rw [hw]; clear hw))
  go_ret
  exact ⟨rfl, grown_new (grown_trans G.out.2 (grown_drewN _ _ _)) H2.out.2 G.out.1⟩
end Go.Proofs.Ytkhkgmndmdeglaa
