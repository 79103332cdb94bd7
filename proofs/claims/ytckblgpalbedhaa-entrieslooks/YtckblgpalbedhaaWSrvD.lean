/- Lists of servers got: the document's; Ints. -/
import Derived.Test.YtckblgpalbedhaaWSrvC
namespace Go.Proofs.Ytckblgpalbedhaa.W
open Go.RowKit Go.Maps
set_option linter.unusedVariables false
set_option linter.unusedSimpArgs false

set_option maxHeartbeats 2000000 in
theorem rgetServers_any (v : Value) (d : List UInt8) (w : World) (h : Byt w v d) (hd : d.length ≤ 140737488355328) : Calls Try.prog 55 #[v] w (IntsPost (gotL d) (gotE d) w) := by
  obtain ⟨av, cv, rfl⟩ := h.len
  have HB := hid_mk h
  have HO := hid_mk (And.intro (getOk_of d) (getL_of d))
  clear h
  go_enter Try.func55, Try.ntmps55
  go_wp2_with fail
  refine (rnew_any _ d w HB.out hd).mono ?_
  rintro e w1 ⟨b, rfl, hr1, hg1⟩
  have H1 := hid_mk (And.intro hr1 hg1)
  obtain ⟨N, hN⟩ : ∃ N, N = w1.heap.size := ⟨_, rfl⟩
  have HNw := hid_mk (show w.heap.size ≤ N by rw [hN]; exact hg1.size)
  have HN1 := hid_mk hN
  clear hr1 hg1 hN
  go_wp2_with fail
  refine (rnum_any _ _ _ _ w1 H1.out.1).mono ?_
  rintro e w2 ⟨rfl, hr2, hg2, _⟩
  have H2 : Hid (Rr w2 w.heap.size N b (getSt d).2 ∧ w.grownBy w2 none ∧ N ≤ w2.heap.size) := hid_mk ⟨by rw [HN1.out]; exact hr2, grown_new H1.out.2 hg2 H1.out.1.lo, by rw [HN1.out]; exact hg2.size⟩
  rw [show (readN ⟨d, 0⟩).1 = (getSt d).1 from rfl]
  have hcnt : (getSt d).1 < 281474976710656 := readN_lt ⟨d, 0⟩
  clear hr2 hg2 H1 HN1
  generalize (getSt d).1 = n at *
  generalize (getSt d).2 = s1 at *
  obtain ⟨X, hX⟩ : ∃ X, X = min n 8 := ⟨_, rfl⟩
  have hX8 : X ≤ 8 := by omega
  have hXn : X ≤ n := by omega
  have HX := hid_mk hX
  clear hX
  go_wp2_with fail
  go_loopg [6, 7] X (fun g lv iv W => ∃ (i : Nat) (a : Option Addr) (c : Nat), i ≤ X ∧ g = X - i ∧ iv = .int .i64 i ∧ lv = .slice a i c ∧ Hid (OwnI W N lv (nsI i s1) ∧ Rr W w.heap.size N b (readNs i s1).2 ∧ w.grownBy W none ∧ N ≤ W.heap.size))
  case atStart => exact ⟨0, none, 0, Nat.zero_le _, rfl, rfl, rfl, hid_mk ⟨OwnI.nil _ _, H2.out.1, H2.out.2.1, H2.out.2.2⟩⟩
  case round =>
    obtain ⟨i, a, c, hi, hgk, rfl, rfl, H⟩ := hrel
    by_cases hlt : i < X
    · have hiI : (i : Int) < (n : Int) := by omega
      have hi8 : (i : Int) < 8 := by omega
      have HS := hid_mk (nsI_succ i s1)
      have HLn := hid_mk (nsI_len i s1)
      go_wp2_with fail
      refine (rnum_any _ _ _ _ wr H.out.2.1).mono ?_
      rintro e w3 ⟨rfl, hr3, hg3, _⟩
      have H3 : Hid (OwnI w3 N (.slice a i c) (nsI i s1) ∧ Rr w3 w.heap.size N b (readNs (i + 1) s1).2 ∧ w.grownBy w3 none ∧ N ≤ w3.heap.size) := hid_mk
        ⟨owns_kept H.out.1 hg3 (fun g cur hh => by
          obtain ⟨_, _, _, _, _, hbk, _⟩ := H.out.2.1
          exact ne_tag hh hbk (by decide)), by rw [HS.out.2]; exact hr3, grown_new H.out.2.2.1 hg3 H.out.2.1.lo, Nat.le_trans H.out.2.2.2 hg3.size⟩
      clear hr3 hg3
      have hz := readN_lt (readNs i s1).2
      generalize hzz : (readN (readNs i s1).2).1 = z at *
      have HZ := hid_mk hzz
      clear hzz H
      go_wp2_with (at_builtin; refine wp_appb (B := N) H3.out.2.2.1 HNw.out H3.out.2.2.2 H3.out.1 _ i HLn.out.symm (by omega) rfl (.tmp 21) (.tmp 24) rfl rfl rfl ?_; intro a4 c4 w4 P4)
      go_roundg (X - (i + 1))
      case measure => omega
      case rel =>
        refine ⟨i + 1, a4, c4, by omega, rfl, by go_num, rfl, hid_mk ⟨by rw [HS.out.1]; exact P4.out.1, H3.out.2.1.kept P4.out.2.2.1 (fun r hr => ?_), P4.out.2.1, Nat.le_trans H3.out.2.2.2 P4.out.2.2.1.size⟩⟩
        right
        exact P4.out.2.2.2 r hr
    · have hin : i = X := by omega
      subst hin
      have HLn := hid_mk (nsI_len i s1)
      have HEN := hid_mk (rend_any _ _ _ _ wr H.out.2.1)
      have HRI := hid_mk (fun m => rright_any _ _ (wr.drewN m) (H.out.1.ints.kept (grown_drewN _ m none)) (by rw [HLn.out]; omega))
      clear HB
      by_cases hn8 : 8 ≤ n
      · have hi8 : i = 8 := by have := HX.out; omega
        subst hi8
        have HBAD := hid_mk (got_bad (d := d) (by rw [HO.out.1]; simp; omega))
        have hrr : rightS (nsI 8 s1) = false := rightS_len (by rw [HLn.out]; omega)
        rw [hrr] at HRI
        generalize endE (readNs 8 s1).2 = ee at *
        have h8I : ¬ ((8 : Int) < 8) := by omega
        have h8n : (8 : Int) ≤ (n : Int) := by omega
        clear hrr
        by_cases he : ee = 0
        · subst he
          by_cases hne : n = 8
          · subst hne
            go_wp2_with (first
              | (go_at_call 61; refine HEN.out.mono ?_; rintro e wx ⟨rfl, m, rfl⟩)
              | (go_at_call 62; refine (HRI.out m).mono ?_; rintro e wx ⟨rfl, m2, rfl⟩))
            go_ret2
            rw [HBAD.out.1, HBAD.out.2]
            exact intsPost_nil _ _ _ (grown_trans H.out.2.2.1 (by repeat (first | exact grown_drewN _ _ none | exact grown_refl _ _ | refine grown_trans ?_ (grown_drewN _ _ none))))
          · have hneI : ((n : Int) == 8) = false := by simp; omega
            go_wp2_with (go_at_call 61; refine HEN.out.mono ?_; rintro e wx ⟨rfl, m, rfl⟩)
            go_ret2
            rw [HBAD.out.1, HBAD.out.2]
            exact intsPost_nil _ _ _ (grown_trans H.out.2.2.1 (grown_drewN _ _ none))
        · have heI : ((ee : Int) == 0) = false := by simp; omega
          go_wp2_with (go_at_call 61; refine HEN.out.mono ?_; rintro e wx ⟨rfl, m, rfl⟩)
          all_goals
            go_ret2
            rw [HBAD.out.1, HBAD.out.2]
            exact intsPost_nil _ _ _ (grown_trans H.out.2.2.1 (grown_drewN _ _ none))
      · have hin : i = n := by have := HX.out; omega
        subst hin
        have h8I : (i : Int) < 8 := by omega
        generalize hee : endE (readNs i s1).2 = ee at *
        generalize hrr : rightS (nsI i s1) = rr at *
        by_cases he : ee = 0
        · subst he
          cases rr with
          | true =>
            have HOK := hid_mk (got_ok (d := d) (by rw [HO.out.1]; simp; omega))
            have HL2 := hid_mk HO.out.2
            clear hee hrr
            go_wp2_with (first
              | (go_at_call 61; refine HEN.out.mono ?_; rintro e wx ⟨rfl, m, rfl⟩)
              | (go_at_call 62; refine (HRI.out m).mono ?_; rintro e wx ⟨rfl, m2, rfl⟩))
            go_ret2
            rw [HOK.out.1, HOK.out.2, HL2.out]
            have GD : wr.grownBy ((wr.drewN m).drewN m2) none := grown_trans (grown_drewN _ _ none) (grown_drewN _ _ none)
            refine ⟨a, c, by rw [HLn.out]; rfl, ?_, grown_trans H.out.2.2.1 (by repeat (first | exact grown_drewN _ _ none | exact grown_refl _ _ | refine grown_trans ?_ (grown_drewN _ _ none)))⟩
            rw [HLn.out]
            exact (H.out.1.base HNw.out).kept (by repeat (first | exact grown_drewN _ _ none | exact grown_refl _ _ | refine grown_trans ?_ (grown_drewN _ _ none)))
          | false =>
            have HBAD := hid_mk (got_bad (d := d) (by rw [HO.out.1]; simp))
            clear hee hrr
            go_wp2_with (first
              | (go_at_call 61; refine HEN.out.mono ?_; rintro e wx ⟨rfl, m, rfl⟩)
              | (go_at_call 62; refine (HRI.out m).mono ?_; rintro e wx ⟨rfl, m2, rfl⟩))
            go_ret2
            rw [HBAD.out.1, HBAD.out.2]
            exact intsPost_nil _ _ _ (grown_trans H.out.2.2.1 (by repeat (first | exact grown_drewN _ _ none | exact grown_refl _ _ | refine grown_trans ?_ (grown_drewN _ _ none))))
        · have HBAD := hid_mk (got_bad (d := d) (by rw [HO.out.1]; simp; omega))
          have heI : ((ee : Int) == 0) = false := by simp; omega
          clear hee hrr
          go_wp2_with (go_at_call 61; refine HEN.out.mono ?_; rintro e wx ⟨rfl, m, rfl⟩)
          go_ret2
          rw [HBAD.out.1, HBAD.out.2]
          exact intsPost_nil _ _ _ (grown_trans H.out.2.2.1 (grown_drewN _ _ none))

/-! ### Ints -/
end Go.Proofs.Ytckblgpalbedhaa.W
