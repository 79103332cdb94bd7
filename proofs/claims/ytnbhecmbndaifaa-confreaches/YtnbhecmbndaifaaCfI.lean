/- conf: ConfLooks, ConfBeside, ConfBack, ConfChanges: the walks. -/
import Derived.Test.YtnbhecmbndaifaaCfH
namespace Go.Proofs.Ytnbhecmbndaifaa
open Go.RowKit Go.Maps
set_option linter.unusedVariables false
set_option linter.unusedSimpArgs false
set_option maxRecDepth 100000

theorem num_any (z : Int) (w : World) : Calls Try.prog 19 #[.int .i64 z] w fun e w' => e = .returned (.int .i64 z) ∧ w' = w := by
  go_enter Try.func19, Try.ntmps19
  go_wp2
  go_ret
  exact ⟨rfl, rfl⟩
/-- A row of numbers that came in. -/
def Nums (w : World) (v : Value) (l : List Int) : Prop := IntsR w v l ∧ l.length ≤ 17592186044416
theorem Nums.kept {w w' : World} {v : Value} {l : List Int} (h : Nums w v l) (hg : w.grownBy w' none) : Nums w' v l := ⟨h.1.kept hg, h.2⟩
set_option maxHeartbeats 1000000 in
theorem confLooks_walk (v : Value) (l : List Int) (id : Int) (w : World) (h : Nums w v l) : Calls Try.prog 3 #[v, .int .i64 id] w fun e w' => e = .returned (.bool true) ∧ w.grownBy w' none := by
  obtain ⟨a1, c1, rfl⟩ := h.1.len
  have HH := hid_mk h
  have hl := h.2
  clear h
  go_enter Try.func3, Try.ntmps3
  go_wp2_with (at_builtin; refine wp_copyi (grown_refl w none) HH.out.1 hl rfl _ _ rfl rfl rfl ?_; intro aa ac W1 H1)
  have HX := hid_mk (And.intro H1.out.1.ints H1.out.2)
  clear H1
  have HR := hid_mk (fun W (hg : W1.grownBy W none) => right_any _ l W hl (HX.out.1.kept hg))
  have HRR := hid_mk (fun W (hg : W1.grownBy W none) => rright_any _ l W hl (HH.out.1.kept (grown_trans HX.out.2 hg)))
  have HHs := hid_mk (fun W (hg : W1.grownBy W none) => has_any _ l id W hl (HX.out.1.kept hg))
  have HRH := hid_mk (fun W (hg : W1.grownBy W none) => rhas_any _ l id W hl (HH.out.1.kept (grown_trans HX.out.2 hg)))
  have HI := hid_mk (fun W (hg : W1.grownBy W none) => ints_any _ _ l l W hl (HX.out.1.kept hg) (HH.out.1.kept (grown_trans HX.out.2 hg)))
  rw [show decide (l = l) = true by simp] at HI
  have HQ1 := hid_mk (fun W => quorum_any aa l.length ac W hl)
  have HQ2 := hid_mk (fun W => rquorum_any a1 l.length c1 W hl)
  generalize ((l.length / 2 + 1 : Nat) : Int) = q at *
  generalize rtB l = r at *
  generalize decide (id ∈ l) = m at *
  refine (HR.out W1 (grown_refl _ _)).mono ?_
  rintro e W2 ⟨rfl, hg⟩
  have G := hid_mk hg
  clear hg HR
  go_wp2_with fail
  refine (HRR.out W2 G.out).mono ?_
  rintro e W3 ⟨rfl, hg⟩
  have G3 := hid_mk (grown_trans G.out hg)
  clear hg HRR G
  go_wp2_with fail
  refine (HHs.out W3 G3.out).mono ?_
  rintro e W4 ⟨rfl, hg⟩
  have G4 := hid_mk (grown_trans G3.out hg)
  clear hg HHs G3
  go_wp2_with fail
  refine (HRH.out W4 G4.out).mono ?_
  rintro e W5 ⟨rfl, hw⟩
  rw [hw]
  clear hw HRH W5
  go_wp2_with fail
  refine (HQ1.out W4).mono ?_
  rintro e W5 ⟨rfl, hw⟩
  rw [hw]
  clear hw W5
  go_wp2_with fail
  refine (HQ2.out W4).mono ?_
  rintro e W5 ⟨rfl, hw⟩
  rw [hw]
  clear hw W5
  go_wp2_with fail
  refine (HI.out W4 G4.out).mono ?_
  rintro e W6 ⟨rfl, hg⟩
  have G6 := hid_mk (grown_trans G4.out hg)
  clear hg HI G4
  go_wp2_with (go_at_call 16; refine (knows_any _).mono ?_; rintro e W7 ⟨rfl, hg⟩; have G7 := hid_mk hg; clear hg)
  go_ret
  exact ⟨rfl, grown_trans HX.out.2 (grown_trans G6.out G7.out)⟩
set_option maxHeartbeats 1000000 in
theorem confBeside_walk (v u : Value) (a b : List Int) (w : World) (h : Nums w v a) (k : Nums w u b) : Calls Try.prog 5 #[v, u] w fun e w' => e = .returned (.bool true) ∧ w.grownBy w' none := by
  obtain ⟨a1, c1, rfl⟩ := h.1.len
  obtain ⟨a2, c2, rfl⟩ := k.1.len
  have HB1 := hid_mk (beside_any _ _ a b w h.2 k.2 h.1 k.1)
  have HB2 := hid_mk (fun W (hg : w.grownBy W none) => beside_any _ _ b a W k.2 h.2 (k.1.kept hg) (h.1.kept hg))
  rw [besB_comm b a] at HB2
  have HR := hid_mk (fun W (hg : w.grownBy W none) => rbeside_any _ _ a b W h.2 k.2 (h.1.kept hg) (k.1.kept hg))
  clear h k
  generalize besB a b = r at *
  go_enter Try.func5, Try.ntmps5
  go_wp2_with fail
  refine HB1.out.mono ?_
  rintro e W2 ⟨rfl, hg⟩
  have G := hid_mk hg
  clear hg HB1
  go_wp2_with fail
  refine (HR.out W2 G.out).mono ?_
  rintro e W3 ⟨rfl, hg⟩
  have G3 := hid_mk (grown_trans G.out hg)
  clear hg G
  go_wp2_with fail
  refine (HB2.out W3 G3.out).mono ?_
  rintro e W4 ⟨rfl, hg⟩
  have G4 := hid_mk (grown_trans G3.out hg)
  clear hg G3
  go_wp2_with fail
  refine (HR.out W4 G4.out).mono ?_
  rintro e W5 ⟨rfl, hg⟩
  have G5 := hid_mk (grown_trans G4.out hg)
  clear hg G4
  go_wp2_with (go_at_call 16; refine (knows_any _).mono ?_; rintro e W7 ⟨rfl, hg⟩; have G7 := hid_mk hg; clear hg)
  go_ret
  exact ⟨rfl, grown_trans G5.out G7.out⟩
end Go.Proofs.Ytnbhecmbndaifaa
