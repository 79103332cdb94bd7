/- PutBytes; lists of servers. -/
import Derived.Test.YtckblgpalbedhaaWPut
namespace Go.Proofs.Ytckblgpalbedhaa.W
open Go.RowKit Go.Maps
set_option linter.unusedVariables false
set_option linter.unusedSimpArgs false

theorem parts_two (w : World) (t : TypeId) (v1 v2 : Value) (l1 l2 : List UInt8) (h1 : Byt w v1 l1) (h2 : Byt w v2 l2) : Parts (w.alloc (.cells #[v1, v2] t)) (.slice (some ⟨w.heap.size, 0, none⟩) 2 2) [(v1, l1), (v2, l2)] := by
  refine .inr ⟨w.heap.size, 0, 2, rfl, Nat.le_refl _, fun j p hj => ?_⟩
  rw [cell_of_row _ _ _ _ _ _ (heap_alloc_new w _)]
  match j, hj with
  | 0, hj => simp at hj; subst hj; exact ⟨rfl, h1.kept (World.grownBy_alloc _ _ _)⟩
  | 1, hj => simp at hj; subst hj; exact ⟨rfl, h2.kept (World.grownBy_alloc _ _ _)⟩
theorem flat_two (v1 v2 : Value) (l1 l2 : List UInt8) : flat [(v1, l1), (v2, l2)] = l1 ++ l2 := by simp [flat]

def txtErr (n : Nat) : Int := if 1048576 < n then 6 else 0
def txtL (d : List UInt8) : List UInt8 := if 1048576 < d.length then [] else txtB d
theorem txtL_bad {d : List UInt8} (h : 1048576 < d.length) : txtL d = [] ∧ txtErr d.length = 6 := by unfold txtL txtErr; rw [if_pos h, if_pos h]; exact ⟨rfl, rfl⟩
theorem txtL_ok {d : List UInt8} (h : ¬ 1048576 < d.length) : txtL d = txtB d ∧ txtErr d.length = 0 := by unfold txtL txtErr; rw [if_neg h, if_neg h]; exact ⟨rfl, rfl⟩

/-! ### Lists of servers -/
theorem rightS_len {l : List Int} (h : l.length < 1 ∨ 7 < l.length) : rightS l = false := by
  unfold rightS; rw [decide_eq_false_iff_not]; omega
theorem rightS_iff {l : List Int} (h1 : 1 ≤ l.length) (h7 : l.length ≤ 7) {b : Bool} (h : Rising (-1) l ↔ b = true) : rightS l = b := by
  unfold rightS
  cases b
  · rw [decide_eq_false_iff_not]; intro hh; exact absurd (h.1 hh.2.2) (by simp)
  · rw [decide_eq_true_iff]; exact ⟨h1, h7, h.2 rfl⟩
theorem rising_at {l : List Int} {k : Nat} (p : Int) (hk : k < l.length) : Rising p (l.drop k) ↔ p < l[k] ∧ l[k] < 16 ∧ Rising l[k] (l.drop (k + 1)) := by
  rw [List.drop_eq_getElem_cons hk]; rfl

set_option maxHeartbeats 1000000 in
theorem right_in (b off cap : Nat) (l : List Int) (w : World) (hc : ∀ (j : Nat) x, l[j]? = some x → w.cell? ⟨b, off + j, none⟩ = some (.int .i64 x)) (h1 : 1 ≤ l.length) (h7 : l.length ≤ 7) :
    Calls Try.prog 69 #[.slice (some ⟨b, off, none⟩) l.length cap] w fun e w' => e = .returned (.bool (rightS l)) ∧ w' = w := by
  have HC := hid_mk hc
  have n1 : ¬ ((l.length : Int) < 1) := by omega
  have n7 : ¬ (7 < (l.length : Int)) := by omega
  clear hc
  go_enter Try.func69, Try.ntmps69
  go_wp2
  go_loop [3, 16] (fun pv iv => ∃ (k : Nat) (p : Int), k ≤ l.length ∧ iv = .int .i64 k ∧ pv = .int .i64 p ∧ Hid (Rising (-1) l ↔ Rising p (l.drop k))) (fun _ iv => l.length - (intOf iv).toNat)
  case atStart => exact ⟨0, -1, Nat.zero_le _, rfl, rfl, hid_mk (by simp)⟩
  case round =>
    obtain ⟨k, p, hk, rfl, rfl, H⟩ := hrel
    by_cases hlt : k < l.length
    · have hcell := HC.out k l[k] (by simp [hlt])
      have HR := hid_mk (H.out.trans (rising_at p hlt))
      generalize l[k] = x at *
      clear H
      by_cases hx : x ≤ p
      · go_wp2
        go_ret
        exact ⟨ret_bool (rightS_iff h1 h7 (by rw [HR.out]; simp; omega)).symm, rfl⟩
      · by_cases hx16 : 16 ≤ x
        · go_wp2
          go_ret
          exact ⟨ret_bool (rightS_iff h1 h7 (by rw [HR.out]; simp; omega)).symm, rfl⟩
        · go_wp2
          go_round
          case rel => exact ⟨k + 1, x, by omega, by go_num, rfl, hid_mk (HR.out.trans ⟨fun h => h.2.2, fun h => ⟨by omega, by omega, h⟩⟩)⟩
          case measure => simp [intOf]; omega
    · have hkl : k = l.length := by omega
      have HE := hid_mk (show rightS l = true from rightS_iff h1 h7 (by rw [H.out, hkl]; simp [Rising]))
      subst hkl
      clear H
      go_wp2
      go_ret
      exact ⟨ret_bool HE.out.symm, rfl⟩

theorem right_any (v : Value) (l : List Int) (w : World) (h : IntsR w v l) : Calls Try.prog 69 #[v] w fun e w' => e = .returned (.bool (rightS l)) ∧ w' = w := by
  by_cases hb : l.length < 1 ∨ 7 < l.length
  · rw [rightS_len hb]
    obtain ⟨a, c, rfl⟩ := h.len
    clear h
    rcases hb with hb | hb
    · have : (l.length : Int) < 1 := by omega
      go_enter Try.func69, Try.ntmps69
      go_wp2
      go_ret
      exact ⟨rfl, rfl⟩
    · have h1 : ¬ ((l.length : Int) < 1) := by omega
      have h2 : 7 < (l.length : Int) := by omega
      go_enter Try.func69, Try.ntmps69
      go_wp2
      go_ret
      exact ⟨rfl, rfl⟩
  · obtain ⟨b, off, cap, rfl, _, hc⟩ := h.at (by omega)
    exact right_in b off cap l w hc (by omega) (by omega)

def srvErr (l : List Int) : Int := if rightS l = true then 0 else 1
def srvL (l : List Int) : List UInt8 := if rightS l = true then srvB l else []
theorem srvL_ok {l : List Int} (h : rightS l = true) : srvL l = srvB l ∧ srvErr l = 0 := by unfold srvL srvErr; rw [if_pos h, if_pos h]; exact ⟨rfl, rfl⟩
theorem srvL_bad {l : List Int} (h : rightS l = false) : srvL l = [] ∧ srvErr l = 1 := by unfold srvL srvErr; rw [h]; exact ⟨rfl, rfl⟩

theorem eq_str (l : List UInt8) : (l == (⟨l.toArray⟩ : ByteArray).toList) = true := by simp [go_sem]

end Go.Proofs.Ytckblgpalbedhaa.W
