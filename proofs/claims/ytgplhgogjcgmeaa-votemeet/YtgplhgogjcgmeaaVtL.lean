/- vote: VoteCounts: the walk. -/
import Derived.Test.YtgplhgogjcgmeaaVtK
namespace Go.Proofs.Ytgplhgogjcgmeaa
open Go.RowKit Go.Maps
set_option linter.unusedVariables false
set_option linter.unusedSimpArgs false
set_option maxRecDepth 100000

theorem OwnI.nums {w : World} {B : Nat} {v : Value} {l : List Int} (h : OwnI w B v l) (hw : ∀ x ∈ l, Wf x) (hl : l.length ≤ 17592186044416) : Nums w v l := ⟨h.ints, hw, hl⟩
set_option maxHeartbeats 1000000 in
theorem voteCounts_walk (v u : Value) (l y : List Int) (w : World) (h : Nums w v l) (k : Nums w u y) : Calls Try.prog 4 #[v, u] w fun e w' => e = .returned (.bool true) ∧ w.grownBy w' none := by
  obtain ⟨a1, c1, rfl⟩ := h.1.len
  obtain ⟨a2, c2, rfl⟩ := k.1.len
  have HH := hid_mk (And.intro h k)
  have hl := h.2.2
  clear h k
  go_enter Try.func4, Try.ntmps4
  go_wp2_with (first
    | (at_builtin; refine wp_copyi (grown_refl w none) HH.out.1.1 HH.out.1.2.2 rfl _ _ rfl rfl rfl ?_; intro aa ac W1 H1)
    | (at_builtin; refine wp_copyi (grown_refl W1 none) (HH.out.2.1.kept H1.out.2) HH.out.2.2.2 rfl _ _ rfl rfl rfl ?_; intro ba bc W2 H2))
  have HA := hid_mk (show Nums W2 (.slice aa l.length ac) l ∧ Nums W2 (.slice ba y.length bc) y ∧ w.grownBy W2 none from ⟨(H1.out.1.kept H2.out.2).nums HH.out.1.2.1 HH.out.1.2.2, H2.out.1.nums HH.out.2.2.1 HH.out.2.2.2, grown_trans H1.out.2 H2.out.2⟩)
  clear H1 H2
  refine (count_any _ _ l y W2 HA.out.1 HA.out.2.1).mono ?_
  rintro e W3 ⟨rfl, hg⟩
  have H3 := hid_mk (grown_trans HA.out.2.2 hg)
  have HA3 := hid_mk (And.intro (HA.out.1.kept hg) (HA.out.2.1.kept hg))
  clear hg
  have HC4 := hid_mk (rcount_any _ _ l y W3 (HH.out.1.kept H3.out) (HH.out.2.kept H3.out))
  have HW := hid_mk (fun W => won_any (.slice aa l.length ac) (.slice ba y.length bc) l y W)
  have HV := hid_mk (fun W => rwon_any (.slice a1 l.length c1) (.slice a2 y.length c2) l y W)
  generalize cnt l y = cn at *
  generalize wonB l y = wb at *
  go_wp2_with fail
  refine HC4.out.mono ?_
  clear HC4
  rintro e W4 ⟨rfl, hg⟩
  have H4 := hid_mk (And.intro (grown_trans H3.out hg) (And.intro (HA3.out.1.kept hg) (HA3.out.2.kept hg)))
  clear hg HA3 H3
  go_wp2_with fail
  refine (HW.out W4 H4.out.2.1 H4.out.2.2).mono ?_
  rintro e W5 ⟨rfl, hg⟩
  have H5 := hid_mk (And.intro (grown_trans H4.out.1 hg) (H4.out.2.1.kept hg))
  clear hg H4 HW
  go_wp2_with fail
  refine (HV.out W5 (HH.out.1.kept H5.out.1) (HH.out.2.kept H5.out.1)).mono ?_
  rintro e W6 ⟨rfl, hg⟩
  have H6 := hid_mk (And.intro (grown_trans H5.out.1 hg) (H5.out.2.kept hg))
  clear hg H5 HV
  go_wp2_with fail
  go_loopg [7, 8] l.length (fun g kv iv W => ∃ k : Nat, k ≤ l.length ∧ g = l.length - k ∧ kv = .bool true ∧ iv = .int .i64 k ∧ Hid (w.grownBy W none ∧ Nums W (.slice aa l.length ac) l))
  case atStart => exact ⟨0, Nat.zero_le _, rfl, rfl, rfl, H6⟩
  case round =>
    obtain ⟨k, hk, hgk, rfl, rfl, H⟩ := hrel
    rename World => W
    by_cases hlt : k < l.length
    · have hlt' : (k : Int) < l.length := by omega
      obtain ⟨b, off, cap, e, hc⟩ := (HH.out.1.kept H.out.1).1.get k hlt
      injection e with e1 e2 e3
      subst e1
      clear e2 e3
      obtain ⟨b2, off2, cap2, e, hc2⟩ := H.out.2.1.get k hlt
      injection e with e1 e2 e3
      subst e1
      clear e2 e3
      generalize l[k] = x at *
      go_wp2
      go_quiet (fail)
      go_wp2
      go_roundg (l.length - (k + 1))
      case measure => omega
      case rel => exact ⟨k + 1, by omega, rfl, rfl, by go_num, hid_mk ⟨grown_trans H.out.1 (grown_drewN _ _ none), H.out.2.kept (grown_drewN _ _ none)⟩⟩
    · have hlt' : ¬ (k : Int) < l.length := by omega
      go_wp2_with (go_at_call 15; refine (knows_any _).mono ?_; rintro e w2 ⟨rfl, hg⟩; have HG := hid_mk hg; clear hg)
      go_ret
      exact ⟨rfl, grown_trans H.out.1 HG.out⟩
end Go.Proofs.Ytgplhgogjcgmeaa
