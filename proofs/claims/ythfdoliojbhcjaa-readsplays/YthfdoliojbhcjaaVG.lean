/- vote: the document's Count and Won; knows. -/
import Derived.Test.YthfdoliojbhcjaaVF
namespace Go.Proofs.Ythfdoliojbhcjaa
open Go.RowKit Go.Maps
set_option linter.unusedVariables false
set_option linter.unusedSimpArgs false
set_option maxRecDepth 100000

set_option maxHeartbeats 1000000 in
theorem rcount_any (v u : Value) (l y : List Int) (w : World) (h : Nums w v l) (k : Nums w u y) : Calls Try.prog 41 #[v, u] w fun e w' => e = .returned (.int .i64 (cnt l y)) ∧ w.grownBy w' none := by
  obtain ⟨a1, c1, rfl⟩ := h.1.len
  obtain ⟨a2, c2, rfl⟩ := k.1.len
  have HH := hid_mk (And.intro h k)
  have hl := h.2.2
  have hyl := k.2.2
  clear h k
  go_enter Try.func41, Try.ntmps41
  go_wp2_with fail
  refine (ronce_any _ l w HH.out.1).mono ?_
  rintro e w1 ⟨v1, rfl, hv, hg⟩
  obtain ⟨va, vc, rfl⟩ := hv.len
  have H1 := hid_mk (And.intro hv.ints hg)
  have hdl : (dd l).length ≤ 17592186044416 := Nat.le_trans (dd_len l) hl
  clear hv hg
  go_wp2
  have HL := hid_mk (show cnt l y = ((dd l).filter (fun x => decide (x ∈ y))).length from rfl)
  generalize dd l = L at *
  go_loopg [5, 7] L.length (fun g nv iv W => ∃ (k n m : Nat), k ≤ L.length ∧ n ≤ k ∧ g = L.length - k ∧ iv = .int .i64 k ∧ nv = .int .i64 n ∧ W = w1.drewN m ∧ Hid (n = ((L.take k).filter (fun x => decide (x ∈ y))).length))
  case atStart => exact ⟨0, 0, 0, Nat.zero_le _, Nat.le_refl _, rfl, rfl, rfl, rfl, hid_mk (by simp)⟩
  case round =>
    obtain ⟨k, n, m, hk, hnk, hgk, rfl, rfl, rfl, HN⟩ := hrel
    by_cases hlt : k < L.length
    · have hlt' : (k : Int) < L.length := by omega
      obtain ⟨b, off, cap, e, hc⟩ := H1.out.1.get k hlt
      injection e with e1 e2 e3
      subst e1
      clear e2 e3
      have HT := hid_mk (show L.take (k + 1) = L.take k ++ [L[k]] by rw [List.take_add_one, List.getElem?_eq_getElem hlt]; rfl)
      generalize hx : L[k] = x at *
      clear hx
      have HM := hid_mk (fun (j : Nat) (hj : j < y.length) => show y.take (j + 1) = y.take j ++ [y[j]] by rw [List.take_add_one, List.getElem?_eq_getElem hj]; rfl)
      go_wp2
      go_loopg [8, 9] y.length (fun g mv jv W2 => ∃ (j m : Nat) (b : Bool), j ≤ y.length ∧ g = y.length - j ∧ jv = .int .i64 j ∧ mv = .bool b ∧ W2 = w1.drewN m ∧ Hid (b = decide (x ∈ y.take j)))
      case atStart => exact ⟨0, m, false, Nat.zero_le _, rfl, rfl, rfl, rfl, hid_mk (by simp)⟩
      case round =>
        obtain ⟨j, m2, bb, hj, hgj, rfl, rfl, rfl, HB⟩ := hrel
        by_cases hjk : j < y.length
        · have hjk' : (j : Int) < y.length := by omega
          obtain ⟨b2, off2, cap2, e, hc2⟩ := (HH.out.2.1.kept H1.out.2).get j hjk
          injection e with e1 e2 e3
          subst e1
          clear e2 e3
          have HJ := hid_mk (HM.out j hjk)
          generalize hy : y[j] = z at *
          clear hy
          cases bb
          · by_cases hxy : z = x
            · subst hxy
              go_wp2
              go_quiet (fail)
              go_wp2
              go_roundg (y.length - (j + 1))
              case measure => omega
              case rel => exact ⟨j + 1, _, true, by omega, rfl, by go_num, rfl, by first | rfl | (rw [World.drewN_drewN]), hid_mk (by rw [HJ.out]; simp)⟩
            · have hxy' : (z == x) = false := by simp [hxy]
              go_wp2
              go_quiet (fail)
              go_wp2
              go_roundg (y.length - (j + 1))
              case measure => omega
              case rel => exact ⟨j + 1, _, false, by omega, rfl, by go_num, rfl, by first | rfl | (rw [World.drewN_drewN]), hid_mk (by rw [HJ.out]; have := HB.out; simp at this; simp [this]; exact fun e => hxy e.symm)⟩
          · go_wp2
            go_quiet (fail)
            go_wp2
            go_roundg (y.length - (j + 1))
            case measure => omega
            case rel => exact ⟨j + 1, _, true, by omega, rfl, by go_num, rfl, by first | rfl | (rw [World.drewN_drewN]), hid_mk (by rw [HJ.out]; have := HB.out; simp at this; simp [this])⟩
        · have hjk' : ¬ (j : Int) < y.length := by omega
          have HB2 : Hid (bb = decide (x ∈ y)) := hid_mk (by rw [HB.out, List.take_of_length_le (by omega)])
          clear HB
          cases bb
          · go_wp2
            go_roundg (L.length - (k + 1))
            case measure => omega
            case rel => exact ⟨k + 1, n, m2, by omega, by omega, rfl, by go_num, rfl, rfl, hid_mk (by rw [HT.out, List.filter_append, List.length_append, ← HN.out]; have := HB2.out; simp at this; simp [this])⟩
          · go_wp2
            go_roundg (L.length - (k + 1))
            case measure => omega
            case rel => exact ⟨k + 1, n + 1, m2, by omega, by omega, rfl, by go_num, by go_num, rfl, hid_mk (by rw [HT.out, List.filter_append, List.length_append, ← HN.out]; have := HB2.out; simp at this; simp [this])⟩
    · have hlt' : ¬ (k : Int) < L.length := by omega
      go_wp2
      go_ret
      refine ⟨ret_int ?_, grown_trans H1.out.2 (grown_drewN _ _ none)⟩
      have := HN.out
      rw [List.take_of_length_le (by omega), ← HL.out] at this
      rw [this]
theorem rwon_any (v u : Value) (l y : List Int) (w : World) (h : Nums w v l) (k : Nums w u y) : Calls Try.prog 34 #[v, u] w fun e w' => e = .returned (.bool (wonB l y)) ∧ w.grownBy w' none := by
  obtain ⟨a1, c1, rfl⟩ := h.1.len
  obtain ⟨a2, c2, rfl⟩ := k.1.len
  have HH := hid_mk (And.intro h k)
  have hl := h.2.2
  clear h k
  go_enter Try.func34, Try.ntmps34
  go_wp2_with fail
  refine (rcount_any _ _ l y w HH.out.1 HH.out.2).mono ?_
  rintro e w1 ⟨rfl, hg⟩
  have H1 := hid_mk hg
  clear hg
  have hcl : cnt l y ≤ (dd l).length := cnt_le l y
  have hdl : (dd l).length ≤ 17592186044416 := Nat.le_trans (dd_len l) hl
  have HF := hid_mk (show wonB l y = decide (((dd l).length : Int) < 2 * (cnt l y : Int)) by unfold wonB; rw [decide_eq_decide]; omega)
  have HR := hid_mk (ronce_any (.slice a1 l.length c1) l w1 (HH.out.1.kept H1.out))
  generalize hcn : cnt l y = cn at *
  go_wp2_with fail
  refine HR.out.mono ?_
  rintro e w2 ⟨v1, rfl, hv, hg⟩
  obtain ⟨va, vc, rfl⟩ := hv.len
  have H2 := hid_mk (grown_trans H1.out hg)
  clear hv hg HR
  generalize (dd l).length = dn at *
  go_wp2
  go_ret
  exact ⟨ret_bool HF.out.symm, H2.out⟩
end Go.Proofs.Ythfdoliojbhcjaa
