/- TimerApart: the walk. -/
import Derived.Test.YtkhkgmndmdeglaaTmS
namespace Go.Proofs.Ytkhkgmndmdeglaa
open Go.RowKit Go.Maps
set_option linter.unusedVariables false
set_option linter.unusedSimpArgs false
set_option maxRecDepth 100000

set_option maxHeartbeats 1000000 in
theorem timerApart_walk (n c d : Int) (w : World) : Calls Try.prog 6 #[.int .i64 n, .int .i64 c, .int .i64 d] w fun e w' => e = .returned (.bool true) ∧ w.grownBy w' none := by
  obtain ⟨s, hs, hs1, hs2⟩ := least_ex n
  have HS := hid_mk (And.intro hs1 hs2)
  have en : wrap64 (n.tmod 1000 + 1000) = n.tmod 1000 + 1000 := by
    have := tmod_bd n (s := 1000) (by omega) (by omega)
    simp only [Int.cast_ofNat_Int] at this
    unfold wrap64; omega
  obtain ⟨c1, c2, c3⟩ := rem_facts c s hs1 hs2
  obtain ⟨d1, d2, d3⟩ := rem_facts d s hs1 hs2
  have hcr := rst_lt c hs1
  have hdr := rst_lt d hs1
  have HC := hid_mk (And.intro c1 (And.intro c2 c3))
  have HD := hid_mk (And.intro d1 (And.intro d2 d3))
  have tc := twice_rem c s hs1
  have td := twice_rem d s hs1
  clear c1 c2 c3 d1 d2 d3
  have hz : ((s : Int) == 0) = false := by simp; omega
  go_enter Try.func6, Try.ntmps6
  go_wp2_with fail
  refine (new_ok s c w HS.out.1 HS.out.2).mono ?_
  rintro e w1 ⟨b, rfl, hb, hlt, hg⟩
  have H1 := hid_mk (And.intro hb (And.intro hlt hg))
  clear hb hlt hg
  go_wp2_with fail
  refine (new_ok s d w1 HS.out.1 HS.out.2).mono ?_
  rintro e w2 ⟨b', rfl, hb, hlt, hg⟩
  have H2 := hid_mk (show TB w2 b 0 (s + rst c s) s ∧ TB w2 b' 0 (s + rst d s) s ∧ w.heap.size ≤ b ∧ w.heap.size ≤ b' ∧ b ≠ b' ∧ w.grownBy w2 none from ⟨H1.out.1.kept hg, hb, H1.out.2.1, by have := H1.out.2.2.size; omega, by have := H1.out.1.1.lt; omega, grown_trans H1.out.2.2 hg⟩)
  clear hb hlt hg H1
  go_wp2_with (first
    | (go_at_call 9; refine (num_any _ _).mono ?_; rintro e w' ⟨rfl, hw⟩; rw [hw]; clear hw)
    | (go_at_call 10; refine (knows_any _).mono ?_; rintro e w3 ⟨rfl, hg⟩; have H3 := hid_mk (show TB w3 b 0 (s + rst c s) s ∧ TB w3 b' 0 (s + rst d s) s ∧ w.heap.size ≤ b ∧ w.heap.size ≤ b' ∧ b ≠ b' ∧ w.grownBy w3 none from ⟨H2.out.1.kept hg, H2.out.2.1.kept hg, H2.out.2.2.1, H2.out.2.2.2.1, H2.out.2.2.2.2.1, grown_trans H2.out.2.2.2.2.2 hg⟩); clear hg))
  obtain ⟨c1, c2, c3⟩ := HC.out
  obtain ⟨d1, d2, d3⟩ := HD.out
  obtain ⟨p, hp⟩ : ∃ p, p = rst c s := ⟨_, rfl⟩
  obtain ⟨q, hq⟩ : ∃ q, q = rst d s := ⟨_, rfl⟩
  rw [← hp] at hcr tc c3 H3
  rw [← hq] at hdr td d3 H3
  clear HC HD hp hq H2
  go_quiet (fail)
  have HA := hid_mk (show ((p : Int) == (q : Int)) = decide (p = q) by rw [Bool.eq_iff_iff]; simp; omega)
  generalize ((p : Int) == (q : Int)) = al at *
  have H4 := hid_mk (show TB (w3.drewN nq) b 0 (s + p) s ∧ TB (w3.drewN nq) b' 0 (s + q) s ∧ w.heap.size ≤ b ∧ w.heap.size ≤ b' ∧ b ≠ b' ∧ w.grownBy (w3.drewN nq) none from ⟨H3.out.1.drew _, H3.out.2.1.drew _, H3.out.2.2.1, H3.out.2.2.2.1, H3.out.2.2.2.2.1, grown_trans H3.out.2.2.2.2.2 (grown_drewN _ _ _)⟩)
  generalize w3.drewN nq = w4 at *
  clear H3 c1 c2 c3 d1 d2 d3 tc td
  go_wp2_with fail
  go_loopg [12, 13, 14] 3000 (fun g iv xv yv W => ∃ k : Nat, k < s + p ∧ k < s + q ∧ g = 3000 - k ∧ iv = .int .i64 k ∧ Hid (TB W b k (s + p) s ∧ TB W b' k (s + q) s ∧ w.heap.size ≤ b ∧ w.heap.size ≤ b' ∧ b ≠ b' ∧ w.grownBy W none))
  case atStart => exact ⟨0, by omega, by omega, rfl, rfl, H4⟩
  case round =>
    obtain ⟨k, hkp, hkq, hgk, rfl, H⟩ := hrel
    rename World => W
    have hlt' : (k : Int) < 2 * (s : Int) := by omega
    have HT := hid_mk (tick_any H.out.1)
    have HT2 := hid_mk (fun w' (hg : W.grownBy w' (some b)) => tick_any (H.out.2.1.other hg (fun e => H.out.2.2.2.2.1 e.symm)))
    rw [show tkd k (s + p) = k + 1 by unfold tkd; rw [if_pos hkp]] at HT
    rw [show tkd k (s + q) = k + 1 by unfold tkd; rw [if_pos hkq]] at HT2
    have X : Hid (∀ w5 w6 : World, TB w5 b (k + 1) (s + p) s → W.grownBy w5 (some b) → TB w6 b' (k + 1) (s + q) s → w5.grownBy w6 (some b') → TB w6 b (k + 1) (s + p) s ∧ TB w6 b' (k + 1) (s + q) s ∧ w.heap.size ≤ b ∧ w.heap.size ≤ b' ∧ b ≠ b' ∧ w.grownBy w6 none) := hid_mk fun w5 w6 t5 g5 t6 g6 => ⟨t5.other g6 H.out.2.2.2.2.1, t6, H.out.2.2.1, H.out.2.2.2.1, H.out.2.2.2.2.1, grown_new (grown_new H.out.2.2.2.2.2 g5 H.out.2.2.1) g6 H.out.2.2.2.1⟩
    by_cases h1 : k + 1 = s + p
    · rw [show decide (k + 1 = s + p) = true from decide_eq_true h1] at HT
      by_cases h2 : k + 1 = s + q
      · rw [show decide (k + 1 = s + q) = true from decide_eq_true h2] at HT2
        have ha : al = true := by rw [HA.out]; exact decide_eq_true (by omega)
        have HH := hid_mk (And.intro h1 h2)
        clear h1 h2
        go_wp2_with fail
        refine HT.out.mono ?_
        rintro e w5 ⟨rfl, ht, hg⟩
        have H5 := hid_mk (And.intro ht hg)
        clear ht hg
        go_wp2_with fail
        refine (HT2.out _ H5.out.2).mono ?_
        rintro e w6 ⟨rfl, ht, hg⟩
        have H6 := hid_mk (X.out _ _ H5.out.1 H5.out.2 ht hg)
        clear ht hg
        go_wp2_with fail
        go_ret
        exact ⟨rfl, H6.out.2.2.2.2.2⟩
      · rw [show decide (k + 1 = s + q) = false from decide_eq_false h2] at HT2
        have ha : al = false := by rw [HA.out]; exact decide_eq_false (by omega)
        have HH := hid_mk (And.intro h1 h2)
        clear h1 h2
        go_wp2_with fail
        refine HT.out.mono ?_
        rintro e w5 ⟨rfl, ht, hg⟩
        have H5 := hid_mk (And.intro ht hg)
        clear ht hg
        go_wp2_with fail
        refine (HT2.out _ H5.out.2).mono ?_
        rintro e w6 ⟨rfl, ht, hg⟩
        have H6 := hid_mk (X.out _ _ H5.out.1 H5.out.2 ht hg)
        clear ht hg
        go_wp2_with fail
        go_ret
        exact ⟨rfl, H6.out.2.2.2.2.2⟩
    · rw [show decide (k + 1 = s + p) = false from decide_eq_false h1] at HT
      by_cases h2 : k + 1 = s + q
      · rw [show decide (k + 1 = s + q) = true from decide_eq_true h2] at HT2
        have ha : al = false := by rw [HA.out]; exact decide_eq_false (by omega)
        have HH := hid_mk (And.intro h1 h2)
        clear h1 h2
        go_wp2_with fail
        refine HT.out.mono ?_
        rintro e w5 ⟨rfl, ht, hg⟩
        have H5 := hid_mk (And.intro ht hg)
        clear ht hg
        go_wp2_with fail
        refine (HT2.out _ H5.out.2).mono ?_
        rintro e w6 ⟨rfl, ht, hg⟩
        have H6 := hid_mk (X.out _ _ H5.out.1 H5.out.2 ht hg)
        clear ht hg
        go_wp2_with fail
        go_ret
        exact ⟨rfl, H6.out.2.2.2.2.2⟩
      · rw [show decide (k + 1 = s + q) = false from decide_eq_false h2] at HT2
        have HH := hid_mk (And.intro h1 h2)
        clear h1 h2
        go_wp2_with fail
        refine HT.out.mono ?_
        rintro e w5 ⟨rfl, ht, hg⟩
        have H5 := hid_mk (And.intro ht hg)
        clear ht hg
        go_wp2_with fail
        refine (HT2.out _ H5.out.2).mono ?_
        rintro e w6 ⟨rfl, ht, hg⟩
        have H6 := hid_mk (X.out _ _ H5.out.1 H5.out.2 ht hg)
        clear ht hg
        go_wp2_with fail
        go_roundg (3000 - (k + 1))
        case measure => omega
        case rel => exact ⟨k + 1, by have := HH.out.1; omega, by have := HH.out.2; omega, rfl, by go_num, H6⟩
end Go.Proofs.Ytkhkgmndmdeglaa
