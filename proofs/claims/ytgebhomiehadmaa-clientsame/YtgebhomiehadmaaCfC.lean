/- conf: Right, Has, placeOf, Quorum. -/
import Derived.Test.YtgebhomiehadmaaCfB
namespace Go.Proofs.Ytgebhomiehadmaa
open Go.RowKit Go.Maps
set_option linter.unusedVariables false
set_option linter.unusedSimpArgs false
set_option maxRecDepth 100000

set_option maxHeartbeats 1000000 in
theorem right1_any (v : Value) (l : List Int) (i b1 : Nat) (w : World) (hi : i < l.length) (hl : l.length ≤ 17592186044416) (h : IntsR w v l) (h1 : BoxV w b1 v) :
    Calls Try.prog 45 #[.int .i64 i, .pointer (some ⟨b1, 0, none⟩)] w fun e w' => e = .returned (.bool (rtAt l i)) ∧ w.grownBy w' none := by
  have HH := hid_mk h
  obtain ⟨b, off, cap, rfl, hc⟩ := h.get i hi
  have hi' : (i : Int) < l.length := by omega
  unfold BoxV at h1
  clear h
  have HI := hid_mk hi
  unfold rtAt
  rw [show l.getD i 0 = l[i]'hi from by simp [hi]]
  have hm := cmayBe_any l[i]
  cases hb : inR l[i]
  · rw [hb] at hm
    have HM := hid_mk hm
    generalize l[i] = x at *
    clear hm hi hb HI HH
    generalize l.length = L at *
    go_enter Try.func45, Try.ntmps45
    go_wp2
    go_quiet ((go_at_call 46; exact Calls.quiet_of_same (HM.out _)))
    go_wp2
    go_ret
    exact ⟨rfl, grown_drewN _ _ none⟩
  · rw [hb] at hm
    have HM := hid_mk hm
    by_cases h0 : i = 0
    · subst h0
      generalize l[0] = x at *
      clear hm hi hb HI HH
      simp only [Nat.add_zero] at hc
      replace hi' : (0 : Int) < l.length := by simpa using hi'
      rw [show ((0 : Nat) : Int) = 0 from rfl]
      generalize l.length = L at *
      go_enter Try.func45, Try.ntmps45
      go_wp2
      go_quiet ((go_at_call 46; exact Calls.quiet_of_same (HM.out _)))
      go_wp2
      go_ret
      exact ⟨rfl, grown_drewN _ _ none⟩
    · obtain ⟨j, rfl⟩ : ∃ j, i = j + 1 := ⟨i - 1, by omega⟩
      obtain ⟨b', off', cap', e, hc'⟩ := HH.out.get j (by omega)
      injection e with e1 e2 e3
      injection e1 with e1
      injection e1 with e1 e4
      subst e1 e4
      clear e2 e3
      rw [show l.getD (j + 1 - 1) 0 = l[j] by simp [show j < l.length by omega]]
      have hj' : (j : Int) < l.length := by omega
      replace hi' : (j : Int) + 1 < l.length := by omega
      have hz : ((j : Int) + 1 == 0) = false := by simp; omega
      rw [show ((j + 1 : Nat) : Int) = (j : Int) + 1 from by omega]
      generalize l[j + 1] = x at *
      generalize l[j] = y at *
      clear hm hi hb HI HH
      generalize l.length = L at *
      go_enter Try.func45, Try.ntmps45
      go_wp2
      go_quiet ((go_at_call 46; exact Calls.quiet_of_same (HM.out _)))
      go_wp2
      go_ret
      exact ⟨ret_bool (by simp), grown_drewN _ _ none⟩
theorem every1_any (v : Value) (l : List Int) (i b1 b3 : Nat) (w : World) (hi : i < l.length) (hl : l.length ≤ 17592186044416) (h : IntsR w v l) (h1 : BoxV w b1 v) (h3 : BoxV w b3 (.func (.func 45) #[] #[.pointer (some ⟨b1, 0, none⟩)])) :
    Calls Try.prog 57 #[.int .i64 i, .pointer (some ⟨b3, 0, none⟩)] w fun e w' => e = .returned (.bool (!rtAt l i)) ∧ w.grownBy w' none := by
  have HC := hid_mk (right1_any v l i b1 w hi hl h h1)
  unfold BoxV at h3
  clear h h1 hi hl
  generalize rtAt l i = r at *
  go_enter Try.func57, Try.ntmps57
  go_wp2_with (go_at_call 45; refine HC.out.mono ?_; rintro e w' ⟨rfl, hg⟩; have HG := hid_mk hg; clear hg)
  go_ret
  exact ⟨rfl, HG.out⟩
theorem box_new (w : World) (v : Value) (t : TypeId) : BoxV (w.alloc (.cells #[v] t)) w.heap.size v := by
  unfold BoxV
  rw [cell_of_row _ _ _ _ _ _ (heap_alloc_new w _)]
  rfl
theorem every_any (v : Value) (l : List Int) (b1 : Nat) (w : World) (hl : l.length ≤ 17592186044416) (h : IntsR w v l) (h1 : BoxV w b1 v) :
    Calls Try.prog 44 #[.int .i64 l.length, .func (.func 45) #[] #[.pointer (some ⟨b1, 0, none⟩)]] w fun e w' => e = .returned (.bool (decide (∀ i, i < l.length → rtAt l i = true))) ∧ w.grownBy w' none := by
  have hg0 := World.grownBy_alloc w (.cells #[.func (.func 45) #[] #[.pointer (some ⟨b1, 0, none⟩)]] 88) none
  have HC := hid_mk (first_gen 57 ent38 #[.pointer (some ⟨w.heap.size, 0, none⟩)] l.length hl (fun i => !rtAt l i) (w.alloc (.cells #[.func (.func 45) #[] #[.pointer (some ⟨b1, 0, none⟩)]] 88)) (fun i hi W hg => every1_any v l i b1 w.heap.size W hi hl (h.kept (grown_trans hg0 hg)) (h1.kept (grown_trans hg0 hg)) ((box_new w _ 88).kept hg)))
  have HG0 := hid_mk hg0
  clear h h1 hg0
  go_enter Try.func44, Try.ntmps44
  go_wp2_with fail
  refine HC.out.mono ?_
  rintro e w' ⟨k, hk, rfl, hg⟩
  have HG := hid_mk (grown_trans HG0.out hg)
  have HK := hid_mk hk
  clear hg hk HC HG0
  go_wp2_with fail
  go_ret
  refine ⟨ret_bool ?_, HG.out⟩
  have hk := HK.out
  rw [Bool.eq_iff_iff, decide_eq_true_iff]
  constructor
  · intro e i hi
    have ek : k = l.length := by have h2 : (k : Int) = l.length := by simpa using e
                                 omega
    have := hk.2.1 i (by omega)
    simpa using this
  · intro h
    rcases Nat.lt_or_ge k l.length with h2 | h2
    · have := hk.2.2 h2
      simp [h k h2] at this
    · have : k = l.length := by have := hk.1; omega
      simp [this]

theorem rtB_every {l : List Int} (h1 : 1 ≤ l.length) (h2 : l.length ≤ 7) : decide (∀ i, i < l.length → rtAt l i = true) = rtB l := by
  unfold rtB
  rw [decide_eq_decide, rt_all]
  unfold Rt
  exact ⟨fun h => ⟨h1, h2, h⟩, fun h => h.2.2⟩
theorem right_any (v : Value) (l : List Int) (w : World) (hl : l.length ≤ 17592186044416) (h : IntsR w v l) : Calls Try.prog 26 #[v] w fun e w' => e = .returned (.bool (rtB l)) ∧ w.grownBy w' none := by
  have hg0 := World.grownBy_alloc w (.cells #[v] 22) none
  have HC := hid_mk (every_any v l w.heap.size (w.alloc (.cells #[v] 22)) hl (h.kept hg0) (box_new w v 22))
  have HG0 := hid_mk hg0
  obtain ⟨a1, c1, rfl⟩ := h.len
  clear h hg0
  have hR := @rtB_every l
  have hL := @rtB_len l
  generalize decide (∀ i, i < l.length → rtAt l i = true) = ev at *
  generalize rtB l = r at *
  generalize l.length = L at *
  by_cases h1 : 1 ≤ L
  · have h1' : (1 : Int) ≤ L := by omega
    by_cases h2 : L ≤ 7
    · have h2' : (L : Int) ≤ 7 := by omega
      obtain rfl := hR h1 h2
      clear hR hL
      go_enter Try.func26, Try.ntmps26
      go_wp2_with (go_at_call 44; refine HC.out.mono ?_; rintro e w' ⟨rfl, hg⟩; have HG := hid_mk hg; clear hg)
      go_ret
      exact ⟨rfl, grown_trans HG0.out HG.out⟩
    · have h2' : ¬ (L : Int) ≤ 7 := by omega
      obtain rfl := hL (by omega)
      clear hR hL HC
      go_enter Try.func26, Try.ntmps26
      go_wp2
      go_ret
      exact ⟨rfl, HG0.out⟩
  · have h1' : ¬ (1 : Int) ≤ L := by omega
    obtain rfl := hL (by omega)
    clear hR hL HC
    go_enter Try.func26, Try.ntmps26
    go_wp2
    go_ret
    exact ⟨rfl, HG0.out⟩
end Go.Proofs.Ytgebhomiehadmaa
