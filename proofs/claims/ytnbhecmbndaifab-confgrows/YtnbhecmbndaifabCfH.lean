/- conf: knows. -/
import Derived.Test.YtnbhecmbndaifabCfF
namespace Go.Proofs.Ytnbhecmbndaifab
open Go.RowKit Go.Maps
set_option linter.unusedVariables false
set_option linter.unusedSimpArgs false
set_option maxRecDepth 100000

/-! ### What must come -/
theorem nth_597 : nthP 3 [5, 9, 7] = 7 := by
  unfold nthP
  rw [if_neg (by decide), show pad 3 [5, 9, 7] = [5, 9, 7] from rfl]
  exact nth_is _ (by decide) (by decide) (by decide)
theorem bes_01 : besB [0] [0, 1] = true := by decide
theorem rt_0 : rtB [0] = true := by decide
set_option maxHeartbeats 1000000 in
theorem knows_any (w : World) : Calls Try.prog 5 #[] w fun e w' => e = .returned (.bool true) ∧ w.grownBy w' none := by
  have HQ := hid_mk (fun a W => quorum_any a 4 4 W (by omega))
  have HN := hid_mk (fun v u W (h : IntsR W v [1, 2, 3]) (k : IntsR W u [5, 9, 7]) => nth_any v u [1, 2, 3] [5, 9, 7] W (by decide) h k)
  rw [show nthP ([1, 2, 3] : List Int).length [5, 9, 7] = 7 from nth_597] at HN
  have HR := hid_mk (fun v W (h : IntsR W v [0]) => right_any v [0] W (by decide) h)
  rw [rt_0] at HR
  have HB := hid_mk (fun v u W (h : IntsR W v [0]) (k : IntsR W u [0, 1]) => beside_any v u [0] [0, 1] W (by decide) (by decide) h k)
  rw [bes_01] at HB
  go_enter Try.func5, Try.ntmps5
  go_wp2_with fail
  refine (HQ.out _ _).mono ?_
  rintro e w1 ⟨rfl, hw⟩
  have HG1 := hid_mk (show w.grownBy w1 none by rw [hw]; exact World.grownBy_alloc _ _ none)
  clear hw HQ
  rw [show ((4 / 2 + 1 : Nat) : Int) = 3 from rfl]
  go_wp2_with fail
  have e3 : ∀ W : World, (W.alloc (.cells #[.int .i64 1, .int .i64 2, .int .i64 3] 3)).heap.size = W.heap.size + 1 := fun W => by simp
  refine (HN.out _ _ _ ((ints_new w1 [1, 2, 3] 3 _ rfl).kept (World.grownBy_alloc _ _ none)) (by have := ints_new (w1.alloc (.cells #[.int .i64 1, .int .i64 2, .int .i64 3] 3)) [5, 9, 7] 3 _ rfl; rw [e3] at this; exact this)).mono ?_
  rintro e w2 ⟨rfl, hg⟩
  have HG2 := hid_mk (grown_trans HG1.out (grown_trans (ga (World.grownBy_alloc _ _ none) _) hg))
  clear hg HN HG1 e3
  go_wp2_with fail
  refine (HR.out _ _ (ints_new w2 [0] 3 _ rfl)).mono ?_
  rintro e w3 ⟨rfl, hg⟩
  have HG3 := hid_mk (grown_trans HG2.out (grown_trans (World.grownBy_alloc _ _ none) hg))
  clear hg HR HG2
  go_wp2_with fail
  have e3 : ∀ W : World, (W.alloc (.cells #[.int .i64 0] 3)).heap.size = W.heap.size + 1 := fun W => by simp
  refine (HB.out _ _ _ ((ints_new w3 [0] 3 _ rfl).kept (World.grownBy_alloc _ _ none)) (by have := ints_new (w3.alloc (.cells #[.int .i64 0] 3)) [0, 1] 3 _ rfl; rw [e3] at this; exact this)).mono ?_
  rintro e w4 ⟨rfl, hg⟩
  have HG4 := hid_mk (grown_trans HG3.out (grown_trans (ga (World.grownBy_alloc _ _ none) _) hg))
  clear hg HB HG3 e3
  go_wp2
  go_ret
  exact ⟨rfl, HG4.out⟩
end Go.Proofs.Ytnbhecmbndaifab
