/- conf: Right, Has, placeOf, Quorum. -/
import Derived.Test.YtcijjepleedecaaCfB
import Derived.Test.YtcijjepleedecaaCMx
namespace Go.Proofs.Ytcijjepleedecaa.C
open Go.RowKit Go.Maps
set_option linter.unusedVariables false
set_option linter.unusedSimpArgs false
set_option maxRecDepth 100000

set_option maxHeartbeats 1000000 in
theorem right1_any (v : Value) (l : List Int) (i b1 : Nat) (w : World) (hi : i < l.length) (hl : l.length ≤ 17592186044416) (h : IntsR w v l) (h1 : BoxV w b1 v) :
    Calls Try.prog 54 #[.int .i64 i, .pointer (some ⟨b1, 0, none⟩)] w fun e w' => e = .returned (.bool (rtAt l i)) ∧ w.grownBy w' none := by
  have HH := hid_mk h
  obtain ⟨b, off, cap, rfl, hc⟩ := h.get i hi
  have hi' : (i : Int) < l.length := by omega
  unfold BoxV at h1
  clear h
  have HI := hid_mk hi
  unfold rtAt
  rw [show l.getD i 0 = l[i]'hi from by simp [hi]]
  have hm := mayBe_any l[i]
  cases hb : inR l[i]
  · rw [hb] at hm
    have HM := hid_mk hm
    generalize l[i] = x at *
    clear hm hi hb HI HH
    generalize l.length = L at *
    go_enter Try.func54, Try.ntmps54
    go_wp2
    go_quiet ((go_at_call 55; exact Calls.quiet_of_same (HM.out _)))
    go_wp2
    go_ret
    exact ⟨rfl, grown_drewN _ _ none⟩
  · rw [hb] at hm
    have HM := hid_mk hm
    by_cases h0 : i = 0
    · subst h0
      generalize l[0] = x at *
      clear hm hi hb HI HH
      simp only [Nat.add_zero] at hc
      replace hi' : (0 : Int) < l.length := by simpa using hi'
      rw [show ((0 : Nat) : Int) = 0 from rfl]
      generalize l.length = L at *
      go_enter Try.func54, Try.ntmps54
      go_wp2
      go_quiet ((go_at_call 55; exact Calls.quiet_of_same (HM.out _)))
      go_wp2
      go_ret
      exact ⟨rfl, grown_drewN _ _ none⟩
    · obtain ⟨j, rfl⟩ : ∃ j, i = j + 1 := ⟨i - 1, by omega⟩
      obtain ⟨b', off', cap', e, hc'⟩ := HH.out.get j (by omega)
      injection e with e1 e2 e3
      injection e1 with e1
      injection e1 with e1 e4
      subst e1 e4
      clear e2 e3
      rw [show l.getD (j + 1 - 1) 0 = l[j] by simp [show j < l.length by omega]]
      have hj' : (j : Int) < l.length := by omega
      replace hi' : (j : Int) + 1 < l.length := by omega
      have hz : ((j : Int) + 1 == 0) = false := by simp; omega
      rw [show ((j + 1 : Nat) : Int) = (j : Int) + 1 from by omega]
      generalize l[j + 1] = x at *
      generalize l[j] = y at *
      clear hm hi hb HI HH
      generalize l.length = L at *
      go_enter Try.func54, Try.ntmps54
      go_wp2
      go_quiet ((go_at_call 55; exact Calls.quiet_of_same (HM.out _)))
      go_wp2
      go_ret
      exact ⟨ret_bool (by simp), grown_drewN _ _ none⟩
theorem every1_any (v : Value) (l : List Int) (i b1 b3 : Nat) (w : World) (hi : i < l.length) (hl : l.length ≤ 17592186044416) (h : IntsR w v l) (h1 : BoxV w b1 v) (h3 : BoxV w b3 (.func (.func 54) #[] #[.pointer (some ⟨b1, 0, none⟩)])) :
    Calls Try.prog 72 #[.int .i64 i, .pointer (some ⟨b3, 0, none⟩)] w fun e w' => e = .returned (.bool (!rtAt l i)) ∧ w.grownBy w' none := by
  have HC := hid_mk (right1_any v l i b1 w hi hl h h1)
  unfold BoxV at h3
  clear h h1 hi hl
  generalize rtAt l i = r at *
  go_enter Try.func72, Try.ntmps72
  go_wp2_with (go_at_call 54; refine HC.out.mono ?_; rintro e w' ⟨rfl, hg⟩; have HG := hid_mk hg; clear hg)
  go_ret
  exact ⟨rfl, HG.out⟩
theorem box_new (w : World) (v : Value) (t : TypeId) : BoxV (w.alloc (.cells #[v] t)) w.heap.size v := by
  unfold BoxV
  rw [cell_of_row _ _ _ _ _ _ (heap_alloc_new w _)]
  rfl
theorem every_any (v : Value) (l : List Int) (b1 : Nat) (w : World) (hl : l.length ≤ 17592186044416) (h : IntsR w v l) (h1 : BoxV w b1 v) :
    Calls Try.prog 53 #[.int .i64 l.length, .func (.func 54) #[] #[.pointer (some ⟨b1, 0, none⟩)]] w fun e w' => e = .returned (.bool (decide (∀ i, i < l.length → rtAt l i = true))) ∧ w.grownBy w' none := by
  have hg0 := World.grownBy_alloc w (.cells #[.func (.func 54) #[] #[.pointer (some ⟨b1, 0, none⟩)]] 91) none
  have HC := hid_mk (first_gen 72 ent38 #[.pointer (some ⟨w.heap.size, 0, none⟩)] l.length hl (fun i => !rtAt l i) (w.alloc (.cells #[.func (.func 54) #[] #[.pointer (some ⟨b1, 0, none⟩)]] 91)) (fun i hi W hg => every1_any v l i b1 w.heap.size W hi hl (h.kept (grown_trans hg0 hg)) (h1.kept (grown_trans hg0 hg)) ((box_new w _ 91).kept hg)))
  have HG0 := hid_mk hg0
  clear h h1 hg0
  go_enter Try.func53, Try.ntmps53
  go_wp2_with fail
  refine HC.out.mono ?_
  rintro e w' ⟨k, hk, rfl, hg⟩
  have HG := hid_mk (grown_trans HG0.out hg)
  have HK := hid_mk hk
  clear hg hk HC HG0
  go_wp2_with fail
  go_ret
  refine ⟨ret_bool ?_, HG.out⟩
  have hk := HK.out
  rw [Bool.eq_iff_iff, decide_eq_true_iff]
  constructor
  · intro e i hi
    have ek : k = l.length := by have h2 : (k : Int) = l.length := by simpa using e
                                 omega
    have := hk.2.1 i (by omega)
    simpa using this
  · intro h
    rcases Nat.lt_or_ge k l.length with h2 | h2
    · have := hk.2.2 h2
      simp [h k h2] at this
    · have : k = l.length := by have := hk.1; omega
      simp [this]

theorem rtB_every {l : List Int} (h1 : 1 ≤ l.length) (h2 : l.length ≤ 7) : decide (∀ i, i < l.length → rtAt l i = true) = rtB l := by
  unfold rtB
  rw [decide_eq_decide, rt_all]
  unfold Rt
  exact ⟨fun h => ⟨h1, h2, h⟩, fun h => h.2.2⟩
theorem right_any (v : Value) (l : List Int) (w : World) (hl : l.length ≤ 17592186044416) (h : IntsR w v l) : Calls Try.prog 37 #[v] w fun e w' => e = .returned (.bool (rtB l)) ∧ w.grownBy w' none := by
  have hg0 := World.grownBy_alloc w (.cells #[v] 43) none
  have HC := hid_mk (every_any v l w.heap.size (w.alloc (.cells #[v] 43)) hl (h.kept hg0) (box_new w v 43))
  have HG0 := hid_mk hg0
  obtain ⟨a1, c1, rfl⟩ := h.len
  clear h hg0
  have hR := @rtB_every l
  have hL := @rtB_len l
  generalize decide (∀ i, i < l.length → rtAt l i = true) = ev at *
  generalize rtB l = r at *
  generalize l.length = L at *
  by_cases h1 : 1 ≤ L
  · have h1' : (1 : Int) ≤ L := by omega
    by_cases h2 : L ≤ 7
    · have h2' : (L : Int) ≤ 7 := by omega
      obtain rfl := hR h1 h2
      clear hR hL
      go_enter Try.func37, Try.ntmps37
      go_wp2_with (go_at_call 53; refine HC.out.mono ?_; rintro e w' ⟨rfl, hg⟩; have HG := hid_mk hg; clear hg)
      go_ret
      exact ⟨rfl, grown_trans HG0.out HG.out⟩
    · have h2' : ¬ (L : Int) ≤ 7 := by omega
      obtain rfl := hL (by omega)
      clear hR hL HC
      go_enter Try.func37, Try.ntmps37
      go_wp2
      go_ret
      exact ⟨rfl, HG0.out⟩
  · have h1' : ¬ (1 : Int) ≤ L := by omega
    obtain rfl := hL (by omega)
    clear hR hL HC
    go_enter Try.func37, Try.ntmps37
    go_wp2
    go_ret
    exact ⟨rfl, HG0.out⟩
theorem isFst_mem {l : List Int} {id : Int} {k : Nat} (h : IsFst (fun i => decide (l.getD i 0 = id)) l.length k) : decide ((k : Int) < l.length) = decide (id ∈ l) := by
  rw [decide_eq_decide]
  constructor
  · intro hk
    have hk' : k < l.length := by omega
    have := h.2.2 hk'
    simp [hk'] at this
    rw [← this]
    exact List.getElem_mem hk'
  · intro hm
    obtain ⟨j, hj, rfl⟩ := List.getElem_of_mem hm
    rcases Nat.lt_or_ge k l.length with h1 | h1
    · omega
    · have := h.2.1 j (by omega)
      simp [hj] at this
set_option maxHeartbeats 1000000 in
theorem has_any (v : Value) (l : List Int) (id : Int) (w : World) (hl : l.length ≤ 17592186044416) (h : IntsR w v l) : Calls Try.prog 74 #[v, .int .i64 id] w fun e w' => e = .returned (.bool (decide (id ∈ l))) ∧ w.grownBy w' none := by
  obtain ⟨w1, hw1⟩ : ∃ w1, w1 = (w.alloc (.cells #[v] 43)).alloc (.cells #[.int .i64 id] 3) := ⟨_, rfl⟩
  have hg0 : w.grownBy w1 none := by rw [hw1]; exact ga (World.grownBy_alloc _ _ none) _
  have hb1 : BoxV w1 w.heap.size v := by rw [hw1]; exact (box_new w v 43).kept (World.grownBy_alloc _ _ none)
  have hb2 : BoxV w1 (w.heap.size + 1) (.int .i64 id) := by
    have := box_new (w.alloc (.cells #[v] 43)) (.int .i64 id) 3
    rw [hw1]; simpa using this
  have HC := hid_mk (fun W (hg : w1.grownBy W none) => first_gen 81 ent30 #[.pointer (some ⟨w.heap.size, 0, none⟩), .pointer (some ⟨w.heap.size + 1, 0, none⟩)] l.length hl (fun i => decide (l.getD i 0 = id)) W (fun i hi W' hg' => has1_any v l id i w.heap.size (w.heap.size + 1) W' hi (h.kept (grown_trans hg0 (grown_trans hg hg'))) (hb1.kept (grown_trans hg hg')) (hb2.kept (grown_trans hg hg'))))
  have HG0 := hid_mk (And.intro hg0 hb1)
  obtain ⟨a1, c1, rfl⟩ := h.len
  clear h hg0 hb1 hb2
  go_enter Try.func74, Try.ntmps74
  go_wp2_with fail
  rw [← hw1]
  clear hw1
  have HF : ∀ W0, w1.grownBy W0 none → W0.cell? ⟨w.heap.size, 0, none⟩ = some (.slice a1 l.length c1) := fun W0 hW => HG0.out.2.kept hW
  refine wp_region_mix [(0, true), (1, true), (2, true), (4, true), (5, true), (3, false), (6, true), (7, true)] (at0 w1 (fun W0 => w1.grownBy W0 none)) (by kernel_rfl) (by kernel_rfl) rfl (by kernel_rfl) (shut_at0 (fun m => grown_drewN _ m none)) ⟨1, rfl⟩ ?_
  repeat (first
    | (refine mix_rd1 rfl rfl (fun K hK => ?_); apply Exists.intro; refine ⟨fun W0 hW => ?_, ?_⟩; (have f0 := HF W0 hW; go_simp; rfl); (go_simp; refine hK _ _ ?_; clear hK K)))
  clear HF
  refine mix_call rfl rfl 57 #[.int .i64 l.length, .func (.func 81) #[] #[.pointer (some ⟨w.heap.size, 0, none⟩), .pointer (some ⟨w.heap.size + 1, 0, none⟩)]] (fun W0 => by go_simp) ?_
  rintro W0 ⟨m3, rfl⟩
  refine (HC.out (w1.drewN m3) (grown_drewN _ _ none)).mono ?_
  rintro e w3 ⟨k, hk, rfl, hg3⟩
  have G3 := hid_mk (grown_trans (grown_drewN w1 m3 none) hg3)
  have HK := hid_mk hk
  clear hk hg3
  refine ⟨_, rfl, at0 w3 (fun W0 => w3.grownBy W0 none), ⟨0, rfl⟩, shut_at0 (fun m => grown_drewN _ m none), fun _ h => grown_trans G3.out h, ?_⟩
  repeat (first
    | (refine mix_rd1 rfl rfl (fun K hK => ?_); apply Exists.intro; refine ⟨fun W0 hW => ?_, ?_⟩; (go_simp; rfl); (go_simp; refine hK _ _ ?_; clear hK K)))
  refine mix_nil ?_
  rintro W1 ⟨m4, rfl⟩
  go_wp2
  go_ret
  exact ⟨ret_bool (by rw [← isFst_mem HK.out, decide_eq_decide]; omega), grown_trans HG0.out.1 (grown_trans G3.out (grown_drewN _ _ none))⟩
theorem isFst_place {l : List Int} {id : Int} {k : Nat} (h : IsFst (fun i => decide (id ≤ l.getD i 0)) l.length k) : Place l id k := by
  refine ⟨h.1, fun j hj hjk => ?_, fun hk => ?_⟩
  · have := h.2.1 j hjk
    simp [hj] at this
    exact this
  · have := h.2.2 hk
    simp [hk] at this
    exact this
theorem placeOf_any (v : Value) (l : List Int) (id : Int) (w : World) (hl : l.length ≤ 17592186044416) (h : IntsR w v l) : Calls Try.prog 84 #[v, .int .i64 id] w fun e w' => ∃ k, Place l id k ∧ e = .returned (.int .i64 k) ∧ w.grownBy w' none := by
  obtain ⟨w1, hw1⟩ : ∃ w1, w1 = (w.alloc (.cells #[v] 43)).alloc (.cells #[.int .i64 id] 3) := ⟨_, rfl⟩
  have hg0 : w.grownBy w1 none := by rw [hw1]; exact ga (World.grownBy_alloc _ _ none) _
  have hb1 : BoxV w1 w.heap.size v := by rw [hw1]; exact (box_new w v 43).kept (World.grownBy_alloc _ _ none)
  have hb2 : BoxV w1 (w.heap.size + 1) (.int .i64 id) := by
    have := box_new (w.alloc (.cells #[v] 43)) (.int .i64 id) 3
    rw [hw1]; simpa using this
  have HC := hid_mk (first_gen 90 ent43 #[.pointer (some ⟨w.heap.size, 0, none⟩), .pointer (some ⟨w.heap.size + 1, 0, none⟩)] l.length hl (fun i => decide (id ≤ l.getD i 0)) w1 (fun i hi W' hg' => place1_any v l id i w.heap.size (w.heap.size + 1) W' hi (h.kept (grown_trans hg0 hg')) (hb1.kept hg') (hb2.kept hg')))
  have HG0 := hid_mk hg0
  rw [hw1] at HC
  obtain ⟨a1, c1, rfl⟩ := h.len
  clear h hg0 hb1 hb2
  have HW := hid_mk hw1
  clear hw1
  go_enter Try.func84, Try.ntmps84
  go_wp2_with fail
  refine HC.out.mono ?_
  rintro e w3 ⟨k, hk, rfl, hg3⟩
  rw [← HW.out] at hg3
  have G3 := hid_mk (And.intro hk hg3)
  clear hk hg3
  go_wp2
  go_ret
  exact ⟨k, isFst_place G3.out.1, rfl, grown_trans HG0.out G3.out.2⟩
end Go.Proofs.Ytcijjepleedecaa.C
