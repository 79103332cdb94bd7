/- ReadsNil: no book, and one that nobody made. -/
import Derived.Test.YthfdoliojbhcjaaBkL
namespace Go.Proofs.Ythfdoliojbhcjaa
open Go.RowKit Go.Maps
set_option linter.unusedVariables false
set_option linter.unusedSimpArgs false
set_option maxRecDepth 100000

/-- No book, or one that nobody made. -/
def NoB (W : World) (p : Option Addr) : Prop := p = none ∨ ∃ b, p = some ⟨b, 0, none⟩ ∧ W.cell? ⟨b, 0, none⟩ = some (.int .i64 0) ∧ W.cell? ⟨b, 1, none⟩ = some (.int .i64 0)
theorem NoB.kept {W W' : World} {p : Option Addr} (h : NoB W p) (hg : W.grownBy W' none) : NoB W' p := by
  rcases h with h | ⟨b, h1, h2, h3⟩
  · exact .inl h
  · exact .inr ⟨b, h1, hg.cell h2 (by simp), hg.cell h3 (by simp)⟩
theorem NoB.made {W : World} {p : Option Addr} (h : NoB W p) : Calls Try.prog 28 #[.pointer p] W fun e w' => e = .returned (.bool false) ∧ ∃ nq, w' = W.drewN nq := by
  rcases h with rfl | ⟨b, rfl, h2, h3⟩
  · exact made_nil W
  · exact made_zero W b h2 h3
theorem no_ask {W : World} {p : Option Addr} (h : NoB W p) (id ix rd : Int) : Calls Try.prog 13 #[.pointer p, .int .i64 id, .int .i64 ix, .int .i64 rd] W fun e w' => e = .returned (.int .i64 1) ∧ W.grownBy w' none := by
  have HD := hid_mk (h.kept (World.grownBy_alloc W (.cells #[.int .i64 id] 3) none)).made
  clear h
  go_enter Try.func13, Try.ntmps13
  go_wp2_with (go_at_call 28; refine HD.out.mono ?_; rintro e w' ⟨rfl, nq, hw⟩; rw [hw]; clear hw)
  go_ret
  exact ⟨rfl, grown_trans (World.grownBy_alloc _ _ none) (grown_drewN _ _ none)⟩
theorem no_heard {W : World} {p : Option Addr} (h : NoB W p) (n r : Int) : Calls Try.prog 14 #[.pointer p, .int .i64 n, .int .i64 r] W fun e w' => e = .returned (.int .i64 1) ∧ W.grownBy w' none := by
  have HD := hid_mk h.made
  clear h
  go_enter Try.func14, Try.ntmps14
  go_wp2_with (go_at_call 28; refine HD.out.mono ?_; rintro e w' ⟨rfl, nq, hw⟩; rw [hw]; clear hw)
  go_ret
  exact ⟨rfl, grown_drewN _ _ none⟩
theorem no_ready {W : World} {p : Option Addr} (h : NoB W p) (sv : Value) : Calls Try.prog 15 #[.pointer p, sv] W fun e w' => e = .returned (.slice none 0 0) ∧ W.grownBy w' none := by
  have HD := hid_mk h.made
  clear h
  go_enter Try.func15, Try.ntmps15
  go_wp2_with (go_at_call 28; refine HD.out.mono ?_; rintro e w' ⟨rfl, nq, hw⟩; rw [hw]; clear hw)
  go_ret
  exact ⟨rfl, grown_drewN _ _ none⟩
theorem no_waiting {W : World} {p : Option Addr} (h : NoB W p) : Calls Try.prog 16 #[.pointer p] W fun e w' => e = .returned (.slice none 0 0) ∧ W.grownBy w' none := by
  have HD := hid_mk h.made
  clear h
  go_enter Try.func16, Try.ntmps16
  go_wp2_with (go_at_call 28; refine HD.out.mono ?_; rintro e w' ⟨rfl, nq, hw⟩; rw [hw]; clear hw)
  go_ret
  exact ⟨rfl, grown_drewN _ _ none⟩
theorem no_clear {W : World} {p : Option Addr} (h : NoB W p) : Calls Try.prog 17 #[.pointer p] W fun e w' => e = .returned (.slice none 0 0) ∧ W.grownBy w' none := by
  have HD := hid_mk h.made
  clear h
  go_enter Try.func17, Try.ntmps17
  go_wp2_with (go_at_call 28; refine HD.out.mono ?_; rintro e w' ⟨rfl, nq, hw⟩; rw [hw]; clear hw)
  go_ret
  exact ⟨rfl, grown_drewN _ _ none⟩
set_option maxHeartbeats 4000000 in
theorem readsNil_walk (k a b c : Int) (sv : Value) (w : World) : Calls Try.prog 4 #[.agg #[.int .i64 k, .int .i64 a, .int .i64 b, .int .i64 c, sv]] w fun e w' => e = .returned (.bool true) ∧ w.grownBy w' none := by
  have H0 := hid_mk (show Blk (w.alloc (.cells #[.int .i64 k, .int .i64 a, .int .i64 b, .int .i64 c, sv] 34)) w.heap.size #[.int .i64 k, .int .i64 a, .int .i64 b, .int .i64 c, sv] 34 ∧ w.grownBy (w.alloc (.cells #[.int .i64 k, .int .i64 a, .int .i64 b, .int .i64 c, sv] 34)) none from ⟨heap_alloc_new _ _, World.grownBy_alloc _ _ none⟩)
  have HC := hid_mk (fun (W : World) (h : Blk W w.heap.size #[.int .i64 k, .int .i64 a, .int .i64 b, .int .i64 c, sv] 34) => show W.cell? ⟨w.heap.size, 1, none⟩ = some (.int .i64 a) ∧ W.cell? ⟨w.heap.size, 2, none⟩ = some (.int .i64 b) ∧ W.cell? ⟨w.heap.size, 3, none⟩ = some (.int .i64 c) ∧ W.cell? ⟨w.heap.size, 4, none⟩ = some sv from ⟨by rw [h.cell]; rfl, by rw [h.cell]; rfl, by rw [h.cell]; rfl, by rw [h.cell]; rfl⟩)
  go_enter Try.func4, Try.ntmps4
  go_wp2_with fail
  generalize (w.alloc (.cells #[.int .i64 k, .int .i64 a, .int .i64 b, .int .i64 c, sv] 34)) = w0 at *
  go_loopg [3, 4] 2 (fun g pv iv W => ∃ (i : Nat) (p : Option Addr), i ≤ 2 ∧ g = 2 - i ∧ iv = .int .i64 i ∧ pv = .pointer p ∧ Hid (NoB W p ∧ Blk W w.heap.size #[.int .i64 k, .int .i64 a, .int .i64 b, .int .i64 c, sv] 34 ∧ w.grownBy W none))
  case atStart => exact ⟨0, none, by omega, rfl, rfl, rfl, hid_mk ⟨.inl rfl, H0.out.1, H0.out.2⟩⟩
  case round =>
    obtain ⟨i, p, hi, hgk, rfl, rfl, H⟩ := hrel
    rename World => W
    clear H0
    by_cases hlt : i < 2
    · have hlt' : (i : Int) < 2 := by omega
      obtain ⟨c1, c2, c3, c4⟩ := HC.out W H.out.2.1
      go_wp2_with fail
      refine (no_ask H.out.1 a b c).mono ?_
      rintro e w1 ⟨rfl, hg⟩
      have H1 := hid_mk (And.intro (H.out.1.kept hg) (And.intro (H.out.2.1.kept hg (by simp)) (grown_trans H.out.2.2 hg)))
      clear hg c1 c2 c3 c4
      obtain ⟨c1, c2, c3, c4⟩ := HC.out w1 H1.out.2.1
      go_wp2_with (go_at_call 10; refine (num_any _ _).mono ?_; rintro e w' ⟨rfl, hw⟩; rw [hw]; clear hw)
      refine (no_heard H1.out.1 a b).mono ?_
      rintro e w2 ⟨rfl, hg⟩
      have H2 := hid_mk (And.intro (H1.out.1.kept hg) (And.intro (H1.out.2.1.kept hg (by simp)) (grown_trans H1.out.2.2 hg)))
      clear hg c1 c2 c3 c4
      obtain ⟨c1, c2, c3, c4⟩ := HC.out w2 H2.out.2.1
      go_wp2_with (go_at_call 10; refine (num_any _ _).mono ?_; rintro e w' ⟨rfl, hw⟩; rw [hw]; clear hw)
      refine (no_ready H2.out.1 sv).mono ?_
      rintro e w3 ⟨rfl, hg⟩
      have H3 := hid_mk (And.intro (H2.out.1.kept hg) (And.intro (H2.out.2.1.kept hg (by simp)) (grown_trans H2.out.2.2 hg)))
      clear hg c1 c2 c3 c4
      go_wp2_with fail
      refine (no_waiting H3.out.1).mono ?_
      rintro e w4 ⟨rfl, hg⟩
      have H4 := hid_mk (And.intro (H3.out.1.kept hg) (And.intro (H3.out.2.1.kept hg (by simp)) (grown_trans H3.out.2.2 hg)))
      clear hg
      go_wp2_with fail
      refine (no_clear H4.out.1).mono ?_
      rintro e w5 ⟨rfl, hg⟩
      have H5 := hid_mk (And.intro (H4.out.2.1.kept hg (by simp)) (grown_trans H4.out.2.2 hg))
      clear hg
      go_wp2_with fail
      go_roundg (2 - (i + 1))
      case measure => omega
      case rel =>
        refine ⟨i + 1, some ⟨w5.heap.size, 0, none⟩, by omega, rfl, by go_num, rfl, hid_mk ⟨.inr ⟨w5.heap.size, rfl, ?_, ?_⟩, H5.out.1.kept (World.grownBy_alloc _ _ none) (by simp), ga H5.out.2 _⟩⟩
        · rw [cell_of_row _ _ _ _ _ _ (heap_alloc_new w5 _)]; rfl
        · rw [cell_of_row _ _ _ _ _ _ (heap_alloc_new w5 _)]; rfl
    · have hlt' : ¬ (i : Int) < 2 := by omega
      go_wp2_with (go_at_call 11; refine (knows_any _).mono ?_; rintro e w2 ⟨rfl, hg⟩; have HG := hid_mk hg; clear hg)
      go_ret
      exact ⟨rfl, grown_trans H.out.2.2 HG.out⟩
end Go.Proofs.Ythfdoliojbhcjaa
