/- vote: Count, Won; the document's. -/
import Derived.Test.YthfdoliojbhcjaaVE
namespace Go.Proofs.Ythfdoliojbhcjaa
open Go.RowKit Go.Maps
set_option linter.unusedVariables false
set_option linter.unusedSimpArgs false
set_option maxRecDepth 100000

/-- A row of numbers that came in, or that is our own. -/
def Nums (w : World) (v : Value) (l : List Int) : Prop := IntsR w v l ∧ (∀ x ∈ l, Wf x) ∧ l.length ≤ 17592186044416
theorem Nums.kept {w w' : World} {v : Value} {l : List Int} (h : Nums w v l) (hg : w.grownBy w' none) : Nums w' v l := ⟨h.1.kept hg, h.2⟩
def wonB (l y : List Int) : Bool := decide ((dd l).length < 2 * cnt l y)
theorem won_any (v u : Value) (l y : List Int) (w : World) (h : Nums w v l) (k : Nums w u y) : Calls Try.prog 39 #[v, u] w fun e w' => e = .returned (.bool (wonB l y)) ∧ w.grownBy w' none := by
  obtain ⟨a1, c1, rfl⟩ := h.1.len
  obtain ⟨a2, c2, rfl⟩ := k.1.len
  have HH := hid_mk (And.intro h k)
  clear h k
  go_enter Try.func39, Try.ntmps39
  go_wp2_with fail
  refine (once_any _ l w HH.out.1.1 HH.out.1.2.1 HH.out.1.2.2).mono ?_
  rintro e w1 ⟨b, rfl, hb, hlt, hg⟩
  have H1 := hid_mk (And.intro hb hg)
  clear hb hlt hg
  go_wp2_with fail
  refine (once_any _ y w1 (HH.out.2.1.kept H1.out.2) HH.out.2.2.1 HH.out.2.2.2).mono ?_
  rintro e w2 ⟨c, rfl, hc, hlt, hg⟩
  have H2 := hid_mk (And.intro (H1.out.1.kept hg (by simp)) (And.intro hc (grown_trans H1.out.2 hg)))
  clear hc hlt hg H1
  go_wp2_with fail
  refine (countIn_any b c l y w2 H2.out.1 H2.out.2.1 HH.out.1.2.2).mono ?_
  rintro e w3 ⟨rfl, hg⟩
  have H3 := hid_mk (And.intro (H2.out.1.kept hg (by simp)) (grown_trans H2.out.2.2 hg))
  clear hg
  have hcl : cnt l y ≤ (dd l).length := cnt_le l y
  have hdl : (dd l).length ≤ 17592186044416 := Nat.le_trans (dd_len l) HH.out.1.2.2
  have hlen : (Builtin.len_ #[83] 3 #[.map (some b)]).run Try.prog w3 = .ok (.int .i64 (dd l).length) w3 := by
    obtain ⟨D, h1, h2, h3⟩ := H3.out.1
    rw [h1.len Try.underlying83, h3]
  have HF := hid_mk (show wonB l y = decide (((dd l).length : Int) < 2 * (cnt l y : Int)) by unfold wonB; rw [decide_eq_decide]; omega)
  generalize (dd l).length = dn at *
  generalize cnt l y = cn at *
  go_wp2
  go_ret
  exact ⟨ret_bool HF.out.symm, H3.out.2⟩

/-! ### The document's -/
set_option maxHeartbeats 1000000 in
theorem ronce_any (v : Value) (l : List Int) (w : World) (h : Nums w v l) : Calls Try.prog 42 #[v] w fun e w' => ∃ v', e = .returned v' ∧ OwnI w' w.heap.size v' (dd l) ∧ w.grownBy w' none := by
  obtain ⟨a1, c1, rfl⟩ := h.1.len
  have HH := hid_mk h
  have hl := h.2.2
  clear h
  go_enter Try.func42, Try.ntmps42
  go_wp2
  go_loopg [3, 4] l.length (fun g ov iv W => ∃ (k n : Nat) (a : Option Addr) (c : Nat), k ≤ l.length ∧ g = l.length - k ∧ iv = .int .i64 k ∧ ov = .slice a n c ∧ Hid (OwnI W w.heap.size (.slice a n c) (dd (l.take k)) ∧ w.grownBy W none))
  case atStart => exact ⟨0, 0, none, 0, Nat.zero_le _, rfl, rfl, rfl, hid_mk ⟨OwnI.nil _ _, grown_refl _ _⟩⟩
  case round =>
    obtain ⟨k, n, a, c, hk, hgk, rfl, rfl, H⟩ := hrel
    rename World => W
    by_cases hlt : k < l.length
    · have hlt' : (k : Int) < l.length := by omega
      obtain ⟨b, off, cap, e, _, hc⟩ := (HH.out.1.kept H.out.2).at (by omega)
      injection e with e1 e2 e3
      subst e1
      clear e2 e3
      have hck := hc k l[k] (by simp [hlt])
      have HC := hid_mk hc
      have HM := hid_mk (fun (j : Nat) (hj : j < l.length) => show l.take (j + 1) = l.take j ++ [l[j]] by rw [List.take_add_one, List.getElem?_eq_getElem hj]; rfl)
      generalize hx : l[k] = x at *
      have HX := hid_mk hx
      clear hc hx
      go_wp2
      go_loopg [5, 6] k (fun g mv jv W2 => ∃ (j m : Nat) (b : Bool), j ≤ k ∧ g = k - j ∧ jv = .int .i64 j ∧ mv = .bool b ∧ W2 = W.drewN m ∧ Hid (b = decide (x ∈ l.take j)))
      case atStart => exact ⟨0, 0, false, Nat.zero_le _, rfl, rfl, rfl, rfl, hid_mk (by simp)⟩
      case round =>
        obtain ⟨j, m, bb, hj, hgj, rfl, rfl, rfl, HB⟩ := hrel
        by_cases hjk : j < k
        · have hjk' : (j : Int) < k := by omega
          have hjl : (j : Int) < l.length := by omega
          have hcj := HC.out j (l[j]'(by omega)) (by simp [show j < l.length by omega])
          have HJ := hid_mk (HM.out j (by omega))
          generalize hy : l[j]'(by omega) = y at *
          clear hy
          cases bb
          · by_cases hxy : y = x
            · subst hxy
              go_wp2
              go_quiet (fail)
              go_wp2
              go_roundg (k - (j + 1))
              case measure => omega
              case rel => exact ⟨j + 1, _, true, by omega, rfl, by go_num, rfl, by first | rfl | (rw [World.drewN_drewN]), hid_mk (by rw [HJ.out]; simp)⟩
            · have hxy' : (y == x) = false := by simp [hxy]
              go_wp2
              go_quiet (fail)
              go_wp2
              go_roundg (k - (j + 1))
              case measure => omega
              case rel => exact ⟨j + 1, _, false, by omega, rfl, by go_num, rfl, by first | rfl | (rw [World.drewN_drewN]), hid_mk (by rw [HJ.out]; have := HB.out; simp at this; simp [this]; exact fun e => hxy e.symm)⟩
          · go_wp2
            go_quiet (fail)
            go_wp2
            go_roundg (k - (j + 1))
            case measure => omega
            case rel => exact ⟨j + 1, _, true, by omega, rfl, by go_num, rfl, by first | rfl | (rw [World.drewN_drewN]), hid_mk (by rw [HJ.out]; have := HB.out; simp at this; simp [this])⟩
        · obtain rfl : j = k := by omega
          have hjk' : ¬ (j : Int) < j := by omega
          have HT := hid_mk (show l.take (j + 1) = l.take j ++ [x] by rw [HM.out j hlt, HX.out])
          have HN : Hid (n = (dd (l.take j)).length ∧ n < 17592186044416) := hid_mk (by
            obtain ⟨a', c', e⟩ := H.out.1.len
            injection e with _ e _
            refine ⟨e, ?_⟩
            have h1 := dd_len (l.take j)
            rw [List.length_take] at h1
            omega)
          have HO : Hid (OwnI (W.drewN m) w.heap.size (.slice a n c) (dd (l.take j)) ∧ w.grownBy (W.drewN m) none) := hid_mk ⟨H.out.1.kept (grown_drewN _ _ none), grown_trans H.out.2 (grown_drewN _ _ none)⟩
          cases bb
          · have HI := hid_mk (show ¬ x ∈ l.take j by have := HB.out; simpa using this)
            go_wp2_with (at_builtin; refine wp_appi HO.out.2 HO.out.1 x n HN.out.1 HN.out.2 rfl _ _ rfl rfl rfl ?_; intro a' c' W' HA)
            go_roundg (l.length - (j + 1))
            case measure => omega
            case rel => exact ⟨j + 1, n + 1, a', c', by omega, rfl, by go_num, rfl, hid_mk ⟨by rw [HT.out, dd_snoc_new HI.out]; exact HA.out.1, HA.out.2⟩⟩
          · have HI := hid_mk (show x ∈ l.take j by have := HB.out; simpa using this)
            go_wp2
            go_roundg (l.length - (j + 1))
            case measure => omega
            case rel => exact ⟨j + 1, n, a, c, by omega, rfl, by go_num, rfl, hid_mk ⟨by rw [HT.out, dd_snoc_mem HI.out]; exact HO.out.1, HO.out.2⟩⟩
    · have hlt' : ¬ (k : Int) < l.length := by omega
      go_wp2
      go_ret
      exact ⟨_, rfl, by have := H.out.1; rwa [List.take_of_length_le (by omega)] at this, H.out.2⟩
end Go.Proofs.Ythfdoliojbhcjaa
