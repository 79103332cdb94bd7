/- net: which letters may be; a net in memory; made, full, find. -/
import Derived.Test.YthidpnjndhelbaaNbC
namespace Go.Proofs.Ythidpnjndhelbaa
open Go.RowKit Go.Maps
set_option linter.unusedVariables false
set_option linter.unusedSimpArgs false
set_option maxRecDepth 100000

def mid (n : Int) : Bool := decide (0 ≤ n ∧ n < 16)
theorem mid_yes {n : Int} (h0 : 0 ≤ n) (h1 : n < 16) : mid n = true := decide_eq_true ⟨h0, h1⟩
theorem mid_no {n : Int} (h : ¬ (0 ≤ n ∧ n < 16)) : mid n = false := decide_eq_false h
theorem mid_iff {n : Int} : mid n = true ↔ 0 ≤ n ∧ n < 16 := decide_eq_true_iff
theorem noServer_yes (n : Int) (w : World) (h0 : 0 ≤ n) (h1 : n < 16) : Calls Try.prog 42 #[.int .i64 n] w fun e w' => e = .returned (.bool false) ∧ w' = w := by
  go_enter Try.func42, Try.ntmps42
  go_wp2
  go_ret
  exact ⟨ret_bool (by simp; omega), rfl⟩
theorem noServer_no (n : Int) (w : World) (h : ¬ (0 ≤ n ∧ n < 16)) : Calls Try.prog 42 #[.int .i64 n] w fun e w' => e = .returned (.bool true) ∧ w' = w := by
  by_cases h0 : n < 0
  · clear h
    go_enter Try.func42, Try.ntmps42
    go_wp2
    go_ret
    exact ⟨rfl, rfl⟩
  · have h1 : 16 ≤ n := by omega
    clear h
    go_enter Try.func42, Try.ntmps42
    go_wp2
    go_ret
    exact ⟨ret_bool (by first | rfl | (simp; omega)), rfl⟩
theorem noServer_any (n : Int) (w : World) : Calls Try.prog 42 #[.int .i64 n] w fun e w' => e = .returned (.bool (!mid n)) ∧ w' = w := by
  by_cases h : 0 ≤ n ∧ n < 16
  · rw [mid_yes h.1 h.2]; exact noServer_yes n w h.1 h.2
  · rw [mid_no h]; exact noServer_no n w h
theorem id_yes (n : Int) (w : World) (h0 : 0 ≤ n) (h1 : n < 16) : Calls Try.prog 46 #[.int .i64 n] w fun e w' => e = .returned (.bool true) ∧ w' = w := by
  go_enter Try.func46, Try.ntmps46
  go_wp2
  go_ret
  exact ⟨ret_bool (by first | rfl | (simp; omega)), rfl⟩
theorem id_no (n : Int) (w : World) (h : ¬ (0 ≤ n ∧ n < 16)) : Calls Try.prog 46 #[.int .i64 n] w fun e w' => e = .returned (.bool false) ∧ w' = w := by
  by_cases h0 : 0 ≤ n
  · have h1 : ¬ n < 16 := by omega
    clear h
    go_enter Try.func46, Try.ntmps46
    go_wp2
    go_ret
    exact ⟨ret_bool (by first | rfl | (simp; omega)), rfl⟩
  · clear h
    go_enter Try.func46, Try.ntmps46
    go_wp2
    go_ret
    exact ⟨rfl, rfl⟩
theorem id_any (n : Int) (w : World) : Calls Try.prog 46 #[.int .i64 n] w fun e w' => e = .returned (.bool (mid n)) ∧ w' = w := by
  by_cases h : 0 ≤ n ∧ n < 16
  · rw [mid_yes h.1 h.2]; exact id_yes n w h.1 h.2
  · rw [mid_no h]; exact id_no n w h
/-- A letter that may be. -/
def okL (fr tw : Int) (n : Nat) : Bool := mid fr && (mid tw && (!(fr == tw) && decide (n ≤ 1048576)))
theorem okL_iff {fr tw : Int} {n : Nat} : okL fr tw n = true ↔ (0 ≤ fr ∧ fr < 16) ∧ (0 ≤ tw ∧ tw < 16) ∧ fr ≠ tw ∧ n ≤ 1048576 := by
  unfold okL
  simp [mid_iff]
theorem okL_1 {fr tw : Int} {n : Nat} (h : mid fr = false) : okL fr tw n = false := by unfold okL; rw [h]; rfl
theorem okL_2 {fr tw : Int} {n : Nat} (h : mid tw = false) : okL fr tw n = false := by unfold okL; rw [h]; simp
theorem okL_3 {fr tw : Int} {n : Nat} (h : (fr == tw) = true) : okL fr tw n = false := by unfold okL; rw [h]; simp
theorem okL_4 {fr tw : Int} {n : Nat} (h : ¬ n ≤ 1048576) : okL fr tw n = false := by unfold okL; rw [decide_eq_false h]; simp
set_option maxHeartbeats 1000000 in
theorem mayBe_any (fr tw : Int) (a : Option Addr) (n c : Nat) (w : World) : Calls Try.prog 39 #[.agg #[.int .i64 fr, .int .i64 tw, .slice a n c]] w fun e w' => e = .returned (.bool (okL fr tw n)) ∧ w.grownBy w' none := by
  have HG := hid_mk (World.grownBy_alloc w (.cells #[.int .i64 fr, .int .i64 tw, .slice a n c] 39) none)
  cases h1 : mid fr
  · rw [okL_1 h1]
    go_enter Try.func39, Try.ntmps39
    go_wp2_with (go_at_call 42; refine (noServer_any _ _).mono ?_; rintro e w' ⟨rfl, hw⟩; rw [hw]; clear hw)
    go_ret
    exact ⟨rfl, HG.out⟩
  · cases h2 : mid tw
    · rw [okL_2 h2]
      go_enter Try.func39, Try.ntmps39
      go_wp2_with (go_at_call 42; refine (noServer_any _ _).mono ?_; rintro e w' ⟨rfl, hw⟩; rw [hw]; clear hw)
      go_ret
      exact ⟨rfl, HG.out⟩
    · cases h3 : fr == tw
      · by_cases h4 : n ≤ 1048576
        · have h4' : (n : Int) ≤ 1048576 := by omega
          have e1 : okL fr tw n = true := by unfold okL; rw [h1, h2, h3, decide_eq_true h4]; rfl
          have h3' : (fr != tw) = true := by simp [bne, h3]
          rw [e1]
          clear h4 e1
          go_enter Try.func39, Try.ntmps39
          go_wp2_with (go_at_call 42; refine (noServer_any _ _).mono ?_; rintro e w' ⟨rfl, hw⟩; rw [hw]; clear hw)
          go_ret
          exact ⟨ret_bool (by first | rfl | (simp; omega)), HG.out⟩
        · have h4' : ¬ (n : Int) ≤ 1048576 := by omega
          have h3' : (fr != tw) = true := by simp [bne, h3]
          rw [okL_4 h4]
          clear h4
          go_enter Try.func39, Try.ntmps39
          go_wp2_with (go_at_call 42; refine (noServer_any _ _).mono ?_; rintro e w' ⟨rfl, hw⟩; rw [hw]; clear hw)
          go_ret
          exact ⟨ret_bool (by first | rfl | (simp; omega)), HG.out⟩
      · have h3' : (fr != tw) = false := by simp [bne, h3]
        rw [okL_3 h3]
        go_enter Try.func39, Try.ntmps39
        go_wp2_with (go_at_call 42; refine (noServer_any _ _).mono ?_; rintro e w' ⟨rfl, hw⟩; rw [hw]; clear hw)
        go_ret
        exact ⟨rfl, HG.out⟩
set_option maxHeartbeats 1000000 in
theorem right_any (fr tw : Int) (a : Option Addr) (n c : Nat) (w : World) : Calls Try.prog 44 #[.agg #[.int .i64 fr, .int .i64 tw, .slice a n c]] w fun e w' => e = .returned (.bool (okL fr tw n)) ∧ w.grownBy w' none := by
  have HG := hid_mk (World.grownBy_alloc w (.cells #[.int .i64 fr, .int .i64 tw, .slice a n c] 34) none)
  cases h1 : mid fr
  · rw [okL_1 h1]
    go_enter Try.func44, Try.ntmps44
    go_wp2_with (go_at_call 46; refine (id_any _ _).mono ?_; rintro e w' ⟨rfl, hw⟩; rw [hw]; clear hw)
    go_ret
    exact ⟨rfl, HG.out⟩
  · cases h2 : mid tw
    · rw [okL_2 h2]
      go_enter Try.func44, Try.ntmps44
      go_wp2_with (go_at_call 46; refine (id_any _ _).mono ?_; rintro e w' ⟨rfl, hw⟩; rw [hw]; clear hw)
      go_ret
      exact ⟨rfl, HG.out⟩
    · cases h3 : fr == tw
      · by_cases h4 : n ≤ 1048576
        · have h4' : (n : Int) ≤ 1048576 := by omega
          have e1 : okL fr tw n = true := by unfold okL; rw [h1, h2, h3, decide_eq_true h4]; rfl
          have h3' : (fr != tw) = true := by simp [bne, h3]
          rw [e1]
          clear h4 e1
          go_enter Try.func44, Try.ntmps44
          go_wp2_with (go_at_call 46; refine (id_any _ _).mono ?_; rintro e w' ⟨rfl, hw⟩; rw [hw]; clear hw)
          go_ret
          exact ⟨ret_bool (by first | rfl | (simp; omega)), HG.out⟩
        · have h4' : ¬ (n : Int) ≤ 1048576 := by omega
          have h3' : (fr != tw) = true := by simp [bne, h3]
          rw [okL_4 h4]
          clear h4
          go_enter Try.func44, Try.ntmps44
          go_wp2_with (go_at_call 46; refine (id_any _ _).mono ?_; rintro e w' ⟨rfl, hw⟩; rw [hw]; clear hw)
          go_ret
          exact ⟨ret_bool (by first | rfl | (simp; omega)), HG.out⟩
      · have h3' : (fr != tw) = false := by simp [bne, h3]
        rw [okL_3 h3]
        go_enter Try.func44, Try.ntmps44
        go_wp2_with (go_at_call 46; refine (id_any _ _).mono ?_; rintro e w' ⟨rfl, hw⟩; rw [hw]; clear hw)
        go_ret
        exact ⟨rfl, HG.out⟩
end Go.Proofs.Ythidpnjndhelbaa
