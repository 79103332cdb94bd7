/- TimerSoon: the walk. -/
import Derived.Test.YtkhkgmndmdeglaaTmC
namespace Go.Proofs.Ytkhkgmndmdeglaa
open Go.RowKit Go.Maps
set_option linter.unusedVariables false
set_option linter.unusedSimpArgs false
set_option maxRecDepth 100000

theorem twice_rem (n : Int) (s : Nat) (h1 : 1 ≤ s) : (n.tmod s + s).tmod s = (rst n s : Int) := by
  have e := rst_cast n h1
  have l := rst_lt n h1
  have h1' := Int.emod_nonneg n (show (s : Int) ≠ 0 by omega)
  have h3 := Int.emod_lt_of_pos n (show (0 : Int) < s by omega)
  by_cases h0 : n.tmod s < 0
  · rw [tmod_neg n h1 h0, e, Int.tmod_eq_emod_of_nonneg h1', Int.emod_emod]
  · rw [tmod_pos n h1 h0, e, Int.tmod_eq_emod_of_nonneg (by omega), Int.add_emod_right, Int.emod_emod]
theorem rem_facts (n : Int) (s : Nat) (h1 : 1 ≤ s) (h2 : s ≤ 1000) : IntKind.i64.wrap (n.tmod s) = n.tmod s ∧ IntKind.i64.wrap (n.tmod s + s) = n.tmod s + s ∧ IntKind.i64.wrap ((n.tmod s + s).tmod s) = (rst n s : Int) := by
  have hb := tmod_bd n h1 h2
  have hl := rst_lt n h1
  rw [twice_rem n s h1]
  refine ⟨?_, ?_, ?_⟩ <;> rw [IntKind.wrap_i64] <;> omega
theorem least_ex (n : Int) : ∃ s : Nat, wrap64 (1 + (n.tmod 1000 + 1000).tmod 1000) = (s : Int) ∧ 1 ≤ s ∧ s ≤ 1000 := by
  have h := twice_rem n 1000 (by omega)
  have l := rst_lt n (show 1 ≤ 1000 by omega)
  simp only [Int.cast_ofNat_Int] at h
  refine ⟨rst n 1000 + 1, ?_, by omega, by omega⟩
  rw [h]
  unfold wrap64
  omega
set_option maxHeartbeats 1000000 in
theorem timerSoon_walk (n d q : Int) (w : World) : Calls Try.prog 5 #[.int .i64 n, .int .i64 d, .int .i64 q] w fun e w' => e = .returned (.bool true) ∧ w.grownBy w' none := by
  obtain ⟨s, hs, hs1, hs2⟩ := least_ex n
  have hm := twice_rem q 100 (by omega)
  have hm1 := rst_lt q (show 1 ≤ 100 by omega)
  simp only [Int.cast_ofNat_Int] at hm
  generalize rst q 100 = m at *
  have HS := hid_mk (And.intro hs1 hs2)
  have en : wrap64 (n.tmod 1000 + 1000) = n.tmod 1000 + 1000 := by
    have := tmod_bd n (s := 1000) (by omega) (by omega)
    simp only [Int.cast_ofNat_Int] at this
    unfold wrap64; omega
  have eq : wrap64 (q.tmod 100 + 100) = q.tmod 100 + 100 := by
    have := tmod_bd q (s := 100) (by omega) (by omega)
    simp only [Int.cast_ofNat_Int] at this
    unfold wrap64; omega
  go_enter Try.func5, Try.ntmps5
  go_wp2_with fail
  refine (new_ok s d w HS.out.1 HS.out.2).mono ?_
  rintro e w1 ⟨b, rfl, hb, hlt, hg⟩
  have hr := rst_lt d hs1
  obtain ⟨l, hl⟩ : ∃ l, l = s + rst d s := ⟨_, rfl⟩
  have HL := hid_mk hl.symm
  have hl1 : s ≤ l := by omega
  have hl2 : l < 2 * s := by omega
  rw [← hl] at hb
  clear hl hr
  have H1 := hid_mk (And.intro hb (And.intro hlt hg))
  clear hb hlt hg
  go_wp2_with (first
    | (go_at_call 9; refine (num_any _ _).mono ?_; rintro e w' ⟨rfl, hw⟩; rw [hw]; clear hw)
    | (go_at_call 10; refine (knows_any _).mono ?_; rintro e w2 ⟨rfl, hg⟩; have H2 := hid_mk (And.intro (H1.out.1.kept hg) (And.intro H1.out.2.1 (grown_trans H1.out.2.2 hg))); clear hg))
  go_loopg [9] 100 (fun g iv W => ∃ k : Nat, k ≤ m ∧ g = 100 - k ∧ iv = .int .i64 k ∧ Hid ((∃ p, TB W b p l s) ∧ w.heap.size ≤ b ∧ w.grownBy W none))
  case atStart => exact ⟨0, by omega, rfl, rfl, hid_mk ⟨⟨_, H2.out.1⟩, H2.out.2⟩⟩
  case round =>
    obtain ⟨k, hk, hgk, rfl, H⟩ := hrel
    rename World => W
    by_cases hlt : k < m
    · have hlt' : (k : Int) < m := by omega
      go_wp2_with (go_at_call 13; obtain ⟨p, hp⟩ := H.out.1; refine (tick_any hp).mono ?_; rintro e w3 ⟨rfl, ht, hg⟩; have H3 := hid_mk (show (∃ p, TB w3 b p l s) ∧ w.heap.size ≤ b ∧ w.grownBy w3 none from ⟨⟨_, ht⟩, H.out.2.1, grown_new H.out.2.2 hg H.out.2.1⟩); clear ht hg hp)
      go_roundg (100 - (k + 1))
      case measure => omega
      case rel => exact ⟨k + 1, by omega, rfl, by go_num, H3⟩
    · have hlt' : ¬ (k : Int) < m := by omega
      have hl1' : ¬ (l : Int) < s := by omega
      have hl2' : ¬ (2 * (s : Int) ≤ (l : Int)) := by omega
      go_wp2_with (first
        | (go_at_call 12; obtain ⟨p, hp⟩ := H.out.1; refine (reset_any hp.raw d).mono ?_; rintro e w3 ⟨rfl, ht, hg⟩; rw [HL.out] at ht; have H3 := hid_mk (And.intro ht (And.intro H.out.2.1 (grown_new H.out.2.2 hg H.out.2.1))); clear ht hg hp)
        | (go_at_call 9; refine (num_any _ _).mono ?_; rintro e w' ⟨rfl, hw⟩; rw [hw]; clear hw)
        | (go_at_call 15; refine (limit_any H3.out.1).mono ?_; rintro e w' ⟨rfl, hw⟩; rw [hw]; clear hw))
      clear H
      generalize decide (l < s) = x1
      generalize decide (2 * (s : Int) ≤ (l : Int)) = x2
      go_loopg [10] 3000 (fun g iv W => ∃ j : Nat, j ≤ l ∧ g = 3000 - j ∧ iv = .int .i64 ((j : Int) + 1) ∧ Hid (TB W b j l s ∧ w.heap.size ≤ b ∧ w.grownBy W none))
      case atStart => exact ⟨0, by omega, rfl, rfl, H3⟩
      case round =>
        obtain ⟨j, hj, hgj, rfl, H⟩ := hrel
        rename World => W2
        by_cases hjl : j < l
        · have hjl' : (j : Int) + 1 ≤ l := by omega
          have ht0 : tkd j l = j + 1 := by unfold tkd; rw [if_pos hjl]
          have HT := hid_mk (tick_any H.out.1)
          rw [ht0] at HT
          have HE : Hid (decide (j + 1 = l) = ((j : Int) + 1 == (l : Int))) := hid_mk (by rw [Bool.eq_iff_iff]; simp; omega)
          have HF : Hid (decide (j + 1 < s) = decide ((j : Int) + 1 < (s : Int))) := hid_mk (by rw [Bool.eq_iff_iff]; simp; omega)
          rw [HE.out] at HT
          generalize hbe : ((j : Int) + 1 == (l : Int)) = be at *
          go_wp2_with (first
            | (go_at_call 15; refine (limit_any ‹Hid (TB _ b (j + 1) l s ∧ _)›.out.1).mono ?_; rintro e w' ⟨rfl, hw⟩; rw [hw]; clear hw)
            | (go_at_call 15; refine (limit_any H.out.1).mono ?_; rintro e w' ⟨rfl, hw⟩; rw [hw]; clear hw)
            | (go_at_call 13; refine HT.out.mono ?_; rintro e w4 ⟨rfl, ht, hg⟩; have H4 := hid_mk (show TB w4 b (j + 1) l s ∧ w.heap.size ≤ b ∧ w.grownBy w4 none from ⟨ht, H.out.2.1, grown_new H.out.2.2 hg H.out.2.1⟩); clear ht hg)
            | (go_at_call 16; refine (fresh_any ‹Hid (TB _ b (j + 1) l s ∧ _)›.out.1).mono ?_; rintro e w' ⟨rfl, nq, hw⟩; rw [hw, HF.out]; clear hw))
          go_roundg (3000 - (j + 1))
          case measure => omega
          case rel => exact ⟨j + 1, by omega, rfl, by go_num, hid_mk ⟨H4.out.1.drew _, H4.out.2.1, grown_trans H4.out.2.2 (grown_drewN _ _ _)⟩⟩
        · have hjl2 : j = l := by omega
          have hjl' : ¬ (j : Int) + 1 ≤ l := by omega
          have ht0 : tkd j l = l := by unfold tkd; rw [if_neg hjl]; exact hjl2
          have HT := hid_mk (tick_any H.out.1)
          rw [ht0, show decide (l = l) = true from decide_eq_true rfl] at HT
          clear ht0 hjl2
          go_wp2_with (first
            | (go_at_call 15; refine (limit_any ‹Hid (TB _ b l l s ∧ _)›.out.1).mono ?_; rintro e w' ⟨rfl, hw⟩; rw [hw]; clear hw)
            | (go_at_call 15; refine (limit_any H.out.1).mono ?_; rintro e w' ⟨rfl, hw⟩; rw [hw]; clear hw)
            | (go_at_call 13; refine HT.out.mono ?_; rintro e w4 ⟨rfl, ht, hg⟩; have H4 := hid_mk (show TB w4 b l l s ∧ w.grownBy w4 none from ⟨ht, grown_new H.out.2.2 hg H.out.2.1⟩); clear ht hg)
            | (go_at_call 14; refine (quiet_any H4.out.1).mono ?_; rintro e w' ⟨rfl, hw⟩; rw [hw]; clear hw))
          go_ret
          exact ⟨rfl, H4.out.2⟩
end Go.Proofs.Ytkhkgmndmdeglaa
