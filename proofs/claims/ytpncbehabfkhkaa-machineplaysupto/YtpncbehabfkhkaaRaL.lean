/- MachinePlays: the walk. -/
import Derived.Test.YtpncbehabfkhkaaRaK
namespace Go.Proofs.Ytpncbehabfkhkaa.W
open Go.RowKit Go.Maps Go.WideMaps Go.WideElems
set_option linter.unusedVariables false
set_option linter.unusedSimpArgs false
set_option maxRecDepth 100000

set_option maxHeartbeats 4000000 in
theorem plays_bad (sp : Int) (a1 a2 : Option Addr) (c1 c2 : Nat) (os ps : List OpG) (w : World) (hsp : sp < 1 ∨ 1099511627776 < sp) (ho : OpsR w (.slice a1 os.length c1) os) (hp : OpsR w (.slice a2 ps.length c2) ps) (hpv : ∀ x ∈ ps, OpV w x) (hol : os.length ≤ 1048576) (hpl : ps.length ≤ 1048576) :
    Calls Try.prog 4 #[.int .i64 sp, .slice a1 os.length c1, .slice a2 ps.length c2] w fun e w' => e = .returned (.bool true) ∧ w.grownBy w' none := by
  have HH := hid_mk (And.intro ho (And.intro hp hpv))
  clear ho hp hpv
  go_enter Try.func4, Try.ntmps4
  go_wp2_with fail
  refine (new_bad sp w hsp).mono ?_
  rintro e W1 ⟨rfl, rfl⟩
  go_wp2_with fail
  refine (new_ok 5 _ (by omega) (by omega)).mono ?_
  rintro e W2 ⟨bn, bnm, rfl, hN, h2⟩
  have H2 := hid_mk (And.intro hN h2)
  clear hN h2
  go_wp2_with fail
  refine (rnew_bad sp W2 hsp).mono ?_
  rintro e W3 ⟨rfl, rfl⟩
  go_wp2_with fail
  refine (rnew_ok 5 _ (by omega) (by omega)).mono ?_
  rintro e W4 ⟨bq, rfl, hQ, h4⟩
  have H4 := hid_mk (p1_new H2.out.1 H2.out.2 hQ h4)
  clear H2 hQ h4
  go_wp2_with (first
    | (go_at_call 16; refine (num_any _ _).mono ?_; rintro e w' ⟨rfl, hw⟩; rw [hw]; clear hw)
    | (go_at_call 18; refine (knows_any _).mono ?_; rintro e W5 ⟨rfl, hg⟩; have H5 := hid_mk (H4.out.kept hg); clear hg))
  clear H4
  go_loopg [13] (os.length + ps.length) (fun g iv W => ∃ k : Nat, k ≤ os.length + ps.length ∧ (k ≤ os.length ∨ k ≤ ps.length) ∧ g = os.length + ps.length - k ∧ iv = .int .i64 k ∧ Hid (P1 W1 W bn bq k))
  case atStart => exact ⟨0, Nat.zero_le _, .inl (Nat.zero_le _), rfl, rfl, H5⟩
  case round =>
    obtain ⟨k, hk, hk2, hgk, rfl, H⟩ := hrel
    rename World => W
    clear H5
    by_cases hkp : k < ps.length
    · have hkp' : (k : Int) < ps.length := by omega
      obtain ⟨g, off, hix, d0, d1, d2, d3, hbx⟩ := (HH.out.2.1.kept H.out.gr).2 k ps[k] (by simp [hkp])
      have hv := HH.out.2.2 ps[k] (List.getElem_mem hkp)
      generalize ps[k] = x at *
      obtain ⟨ix, xv, l, fr, mo⟩ := x
      simp only at d0 d1 d2 d3
      obtain ⟨oa, oc, hxv, _⟩ := id hv
      simp only at hxv
      subst hxv
      have HV := hid_mk hv
      clear hv hbx
      have HS := hid_mk (step_one H.out (by omega) HV.out)
      by_cases hko : k < os.length
      · have hko' : (k : Int) < os.length := by omega
        go_wp2_with (go_at_call 21; refine HS.out.mono ?_; rintro e W6 ⟨rfl, hp⟩; have H6 := hid_mk hp; clear hp)
        go_roundg (os.length + ps.length - (k + 1))
        case measure => omega
        case rel => exact ⟨k + 1, by omega, by omega, rfl, by go_num, H6⟩
      · have hko' : ¬ (k : Int) < os.length := by omega
        go_wp2_with (go_at_call 21; refine HS.out.mono ?_; rintro e W6 ⟨rfl, hp⟩; have H6 := hid_mk hp; clear hp)
        go_roundg (os.length + ps.length - (k + 1))
        case measure => omega
        case rel => exact ⟨k + 1, by omega, by omega, rfl, by go_num, H6⟩
    · have hkp' : ¬ (k : Int) < ps.length := by omega
      by_cases hko : k < os.length
      · have hko' : (k : Int) < os.length := by omega
        go_wp2
        go_roundg (os.length + ps.length - (k + 1))
        case measure => omega
        case rel => exact ⟨k + 1, by omega, by omega, rfl, by go_num, hid_mk (H.out.later (by omega))⟩
      · have hko' : ¬ (k : Int) < os.length := by omega
        have HS := hid_mk (same_one H.out (by omega))
        go_wp2_with (go_at_call 22; refine HS.out.mono ?_; rintro e W6 ⟨rfl, hp⟩; have H6 := hid_mk (grown_trans H.out.gr hp); clear hp)
        go_ret
        exact ⟨rfl, H6.out⟩
set_option maxHeartbeats 4000000 in
theorem plays_ok (s : Nat) (a1 a2 : Option Addr) (c1 c2 : Nat) (os ps : List OpG) (w : World) (h1 : 1 ≤ s) (h2 : s ≤ 1099511627776) (ho : OpsR w (.slice a1 os.length c1) os) (hp : OpsR w (.slice a2 ps.length c2) ps) (hov : ∀ x ∈ os, OpV w x) (hpv : ∀ x ∈ ps, OpV w x) (hol : os.length ≤ 1048576) (hpl : ps.length ≤ 1048576) :
    Calls Try.prog 4 #[.int .i64 s, .slice a1 os.length c1, .slice a2 ps.length c2] w fun e w' => e = .returned (.bool true) ∧ w.grownBy w' none := by
  have HH := hid_mk (And.intro ho (And.intro hov (And.intro hp hpv)))
  clear ho hp hpv hov
  go_enter Try.func4, Try.ntmps4
  go_wp2_with fail
  refine (new_ok s w h1 h2).mono ?_
  rintro e W1 ⟨bm, bmm, rfl, hM, h1'⟩
  have H1 := hid_mk (And.intro hM h1')
  clear hM h1'
  go_wp2_with fail
  refine (new_ok 5 _ (by omega) (by omega)).mono ?_
  rintro e W2 ⟨bn, bnm, rfl, hN, h2'⟩
  have H2 := hid_mk (And.intro hN h2')
  clear hN h2'
  go_wp2_with fail
  refine (rnew_ok s _ h1 h2).mono ?_
  rintro e W3 ⟨br, rfl, hR, h3⟩
  have H3 := hid_mk (And.intro hR h3)
  clear hR h3
  go_wp2_with fail
  refine (rnew_ok 5 _ (by omega) (by omega)).mono ?_
  rintro e W4 ⟨bq, rfl, hQ, h4⟩
  have H4 := hid_mk (p2_new H1.out.1 H1.out.2 H2.out.1 H2.out.2 H3.out.1 H3.out.2 hQ h4)
  clear H1 H2 H3 hQ h4
  go_wp2_with (first
    | (go_at_call 16; refine (num_any _ _).mono ?_; rintro e w' ⟨rfl, hw⟩; rw [hw]; clear hw)
    | (go_at_call 18; refine (knows_any _).mono ?_; rintro e W5 ⟨rfl, hg⟩; have H5 := hid_mk (H4.out.kept hg); clear hg))
  clear H4
  go_loopg [13] (os.length + ps.length) (fun g iv W => ∃ k : Nat, k ≤ os.length + ps.length ∧ (k ≤ os.length ∨ k ≤ ps.length) ∧ g = os.length + ps.length - k ∧ iv = .int .i64 k ∧ Hid (P2 w W bm br bn bq k k))
  case atStart => exact ⟨0, Nat.zero_le _, .inl (Nat.zero_le _), rfl, rfl, H5⟩
  case round =>
    obtain ⟨k, hk, hk2, hgk, rfl, H⟩ := hrel
    rename World => W
    clear H5
    by_cases hko : k < os.length
    · have hko' : (k : Int) < os.length := by omega
      obtain ⟨g, off, hix, d0, d1, d2, d3, hbx⟩ := (HH.out.1.kept H.out.gr).2 k os[k] (by simp [hko])
      have hv := HH.out.2.1 os[k] (List.getElem_mem hko)
      generalize os[k] = x at *
      obtain ⟨ix, xv, l, fr, mo⟩ := x
      simp only at d0 d1 d2 d3
      obtain ⟨oa, oc, hxv, _⟩ := id hv
      simp only at hxv
      subst hxv
      have HV := hid_mk hv
      clear hv hbx
      have HS := hid_mk (step_two H.out (by omega) HV.out)
      by_cases hkp : k < ps.length
      · have hkp' : (k : Int) < ps.length := by omega
        obtain ⟨g2, off2, hix2, e0, e1, e2, e3, hbx⟩ := HH.out.2.2.1.2 k ps[k] (by simp [hkp])
        have hv := HH.out.2.2.2 ps[k] (List.getElem_mem hkp)
        generalize ps[k] = x at *
        obtain ⟨ix2, xv2, l2, fr2, mo2⟩ := x
        simp only at e0 e1 e2 e3
        obtain ⟨oa2, oc2, hxv, _⟩ := id hv
        simp only at hxv
        subst hxv
        have HV2 := hid_mk hv
        have HE := hid_mk (And.intro e0 (And.intro e1 (And.intro e2 e3)))
        clear hv hbx e0 e1 e2 e3
        go_wp2_with fail
        refine HS.out.mono ?_
        rintro e W6 ⟨rfl, hp⟩
        have H6 := hid_mk hp.swap
        have e0 := H6.out.gr.cell HE.out.1 (by simp)
        have e1 := H6.out.gr.cell HE.out.2.1 (by simp)
        have e2 := H6.out.gr.cell HE.out.2.2.1 (by simp)
        have e3 := H6.out.gr.cell HE.out.2.2.2 (by simp)
        clear hp HS H
        have HS2 := hid_mk (step_two H6.out (by omega) HV2.out)
        go_wp2_with (go_at_call 21; refine HS2.out.mono ?_; rintro e W7 ⟨rfl, hp⟩; have H7 := hid_mk hp.swap; clear hp)
        go_roundg (os.length + ps.length - (k + 1))
        case measure => omega
        case rel => exact ⟨k + 1, by omega, by omega, rfl, by go_num, H7⟩
      · have hkp' : ¬ (k : Int) < ps.length := by omega
        go_wp2_with (go_at_call 21; refine HS.out.mono ?_; rintro e W6 ⟨rfl, hp⟩; have H6 := hid_mk hp; clear hp)
        go_roundg (os.length + ps.length - (k + 1))
        case measure => omega
        case rel => exact ⟨k + 1, by omega, by omega, rfl, by go_num, hid_mk (H6.out.later (by omega) (by omega))⟩
    · have hko' : ¬ (k : Int) < os.length := by omega
      by_cases hkp : k < ps.length
      · have hkp' : (k : Int) < ps.length := by omega
        obtain ⟨g2, off2, hix2, e0, e1, e2, e3, hbx⟩ := (HH.out.2.2.1.kept H.out.gr).2 k ps[k] (by simp [hkp])
        have hv := HH.out.2.2.2 ps[k] (List.getElem_mem hkp)
        generalize ps[k] = x at *
        obtain ⟨ix2, xv2, l2, fr2, mo2⟩ := x
        simp only at e0 e1 e2 e3
        obtain ⟨oa2, oc2, hxv, _⟩ := id hv
        simp only at hxv
        subst hxv
        have HV2 := hid_mk hv
        clear hv hbx
        have HS2 := hid_mk (step_two H.out.swap (by omega) HV2.out)
        go_wp2_with (go_at_call 21; refine HS2.out.mono ?_; rintro e W7 ⟨rfl, hp⟩; have H7 := hid_mk hp.swap; clear hp)
        go_roundg (os.length + ps.length - (k + 1))
        case measure => omega
        case rel => exact ⟨k + 1, by omega, by omega, rfl, by go_num, hid_mk (H7.out.later (by omega) (by omega))⟩
      · have hkp' : ¬ (k : Int) < ps.length := by omega
        have HS := hid_mk (same_one H.out.fst (by omega))
        go_wp2_with fail
        refine HS.out.mono ?_
        rintro e W6 ⟨rfl, hg⟩
        have H6 := hid_mk (H.out.kept hg)
        clear hg HS H
        have HS2 := hid_mk (same_one H6.out.swap.fst (by omega))
        go_wp2_with (go_at_call 22; refine HS2.out.mono ?_; rintro e W7 ⟨rfl, hp⟩; have H7 := hid_mk (grown_trans H6.out.gr hp); clear hp)
        go_ret
        exact ⟨rfl, H7.out⟩
theorem ops_v {w : World} {v : Value} {os : List OpG} (h : OpsR w v os) (hb : ∀ x ∈ os, x.l.length ≤ 1048576) : ∀ x ∈ os, OpV w x := by
  intro x hx
  obtain ⟨i, hi, rfl⟩ := List.mem_iff_getElem.1 hx
  obtain ⟨g, off, _, _, _, _, _, hbx⟩ := h.2 i os[i] (by simp [hi])
  obtain ⟨oa, oc, e⟩ := hbx.len
  exact ⟨oa, oc, e, hbx, hb _ hx⟩
end Go.Proofs.Ytpncbehabfkhkaa.W
