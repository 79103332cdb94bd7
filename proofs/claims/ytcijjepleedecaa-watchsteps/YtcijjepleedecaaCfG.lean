/- conf: the document's answers: Has, Right, Change, Beside. -/
import Derived.Test.YtcijjepleedecaaCfE
namespace Go.Proofs.Ytcijjepleedecaa.C
open Go.RowKit Go.Maps
set_option linter.unusedVariables false
set_option linter.unusedSimpArgs false
set_option maxRecDepth 100000

set_option maxHeartbeats 1000000 in
theorem rsame_any (v u : Value) (l m : List Int) (w : World) (hl : l.length ≤ 17592186044416) (h : IntsR w v l) (k : IntsR w u m) : Calls Try.prog 64 #[v, u] w fun e w' => e = .returned (.bool (decide (l = m))) ∧ w.grownBy w' none := by
  obtain ⟨a1, c1, rfl⟩ := h.len
  obtain ⟨a2, c2, rfl⟩ := k.len
  have HH := hid_mk (And.intro h k)
  clear h k
  by_cases hlm : l.length = m.length
  · have hb : ((l.length : Int) != m.length) = false := by simp [hlm]
    have HL := hid_mk hlm
    have HT := hid_mk (@eq_upto l m hlm)
    clear hlm
    go_enter Try.func64, Try.ntmps64
    go_wp2_with fail
    go_loopg [5] l.length (fun g iv W => ∃ k : Nat, k ≤ l.length ∧ g = l.length - k ∧ iv = .int .i64 k ∧ Hid (w.grownBy W none ∧ ∀ (i : Nat) (h1 : i < l.length) (h2 : i < m.length), i < k → l[i] = m[i]))
    case atStart => exact ⟨0, Nat.zero_le _, rfl, rfl, hid_mk ⟨grown_refl _ _, fun i _ _ h => by omega⟩⟩
    case round =>
      obtain ⟨k, hk, hgk, rfl, H⟩ := hrel
      rename World => W
      by_cases hlt : k < l.length
      · have hlt' : (k : Int) < l.length := by omega
        have hltm : k < m.length := by have := HL.out; omega
        have hltm' : (k : Int) < m.length := by omega
        obtain ⟨b, off, cap, e, hc⟩ := (HH.out.1.kept H.out.1).get k hlt
        injection e with e1 e2 e3
        subst e1
        clear e2 e3
        obtain ⟨b2, off2, cap2, e, hc2⟩ := (HH.out.2.kept H.out.1).get k hltm
        injection e with e1 e2 e3
        subst e1
        clear e2 e3
        by_cases hxy : l[k] = m[k]
        · have HX := hid_mk hxy
          have hne : (l[k] != m[k]) = false := by simp [hxy]
          clear hxy
          have HN := hid_mk (show ∀ (i : Nat) (h1 : i < l.length) (h2 : i < m.length), i < k + 1 → l[i] = m[i] from fun i h1 h2 h3 => by
            rcases Nat.lt_succ_iff_lt_or_eq.1 h3 with h | h
            · exact H.out.2 i h1 h2 h
            · subst h; exact HX.out)
          clear HX
          generalize l[k] = x at *
          generalize m[k] = y at *
          go_wp2
          go_quiet (fail)
          go_wp2
          go_roundg (l.length - (k + 1))
          case measure => omega
          case rel => exact ⟨k + 1, by omega, rfl, by go_num, hid_mk ⟨grown_trans H.out.1 (grown_drewN _ _ none), HN.out⟩⟩
        · have HX := hid_mk (show ¬ l = m from fun e => by subst e; exact hxy rfl)
          have hne : (l[k] != m[k]) = true := by simp [hxy]
          clear hxy
          generalize l[k] = x at *
          generalize m[k] = y at *
          go_wp2
          go_quiet (fail)
          go_wp2
          go_ret
          exact ⟨ret_bool (by simp [HX.out]), grown_trans H.out.1 (grown_drewN _ _ none)⟩
      · have hlt' : ¬ (k : Int) < l.length := by omega
        go_wp2
        go_ret
        exact ⟨ret_bool (by rw [eq_comm, decide_eq_true_iff]; exact HT.out fun i h1 h2 => H.out.2 i h1 h2 (by omega)), H.out.1⟩
  · have hb : ((l.length : Int) != m.length) = true := by simp; omega
    have HX := hid_mk (show ¬ l = m from fun e => hlm (by rw [e]))
    clear hlm
    go_enter Try.func64, Try.ntmps64
    go_wp2
    go_ret
    exact ⟨ret_bool (by simp [HX.out]), grown_refl _ _⟩
set_option maxHeartbeats 1000000 in
theorem rhas_any (v : Value) (l : List Int) (id : Int) (w : World) (hl : l.length ≤ 17592186044416) (h : IntsR w v l) : Calls Try.prog 66 #[v, .int .i64 id] w fun e w' => e = .returned (.bool (decide (id ∈ l))) ∧ w' = w := by
  obtain ⟨a1, c1, rfl⟩ := h.len
  have HH := hid_mk h
  clear h
  go_enter Try.func66, Try.ntmps66
  go_wp2_with fail
  go_loopg [5] l.length (fun g iv W => ∃ k : Nat, k ≤ l.length ∧ g = l.length - k ∧ iv = .int .i64 k ∧ W = w ∧ Hid (∀ (i : Nat) (h1 : i < l.length), i < k → l[i] ≠ id))
  case atStart => exact ⟨0, Nat.zero_le _, rfl, rfl, rfl, hid_mk (fun i _ h => by omega)⟩
  case round =>
    obtain ⟨k, hk, hgk, rfl, rfl, H⟩ := hrel
    by_cases hlt : k < l.length
    · have hlt' : (k : Int) < l.length := by omega
      obtain ⟨b, off, cap, e, hc⟩ := HH.out.get k hlt
      injection e with e1 e2 e3
      subst e1
      clear e2 e3
      by_cases hx : l[k] = id
      · have HX := hid_mk (show id ∈ l from by rw [← hx]; exact List.getElem_mem hlt)
        rw [hx] at hc
        clear hx
        go_wp2
        go_ret
        exact ⟨ret_bool (by simp [HX.out]), rfl⟩
      · have hne : (l[k] == id) = false := by simp [hx]
        have HN := hid_mk (show ∀ (i : Nat) (h1 : i < l.length), i < k + 1 → l[i] ≠ id from fun i h1 h3 => by
          rcases Nat.lt_succ_iff_lt_or_eq.1 h3 with h | h
          · exact H.out i h1 h
          · subst h; exact hx)
        clear hx
        generalize l[k] = x at *
        go_wp2
        go_roundg (l.length - (k + 1))
        case measure => omega
        case rel => exact ⟨k + 1, by omega, rfl, by go_num, rfl, HN⟩
    · have hlt' : ¬ (k : Int) < l.length := by omega
      go_wp2
      go_ret
      refine ⟨ret_bool ?_, rfl⟩
      rw [eq_comm, decide_eq_false_iff_not]
      intro hm
      obtain ⟨j, hj, e⟩ := List.getElem_of_mem hm
      exact H.out j hj (by omega) e
theorem rtB_of {l : List Int} (h : ∀ i, i < l.length → rtAt l i = true) : rtB l = (decide (1 ≤ l.length) && decide (l.length ≤ 7)) := by
  have := rt_all.1 h
  unfold rtB
  rw [Bool.eq_iff_iff, Bool.and_eq_true]
  simp only [decide_eq_true_iff]
  exact ⟨fun h => ⟨h.1, h.2.1⟩, fun h => ⟨h.1, h.2, this⟩⟩
theorem rtB_not {l : List Int} {i : Nat} (hi : i < l.length) (h : rtAt l i = false) : rtB l = false := by
  rw [← Bool.not_eq_true, rtB_iff]
  intro k
  have := rt_all.2 k.2.2 i hi
  rw [h] at this
  cases this
theorem rtAt_lo {l : List Int} {k : Nat} (hk : k < l.length) (h : l[k] < 0) : rtAt l k = false := by unfold rtAt inR; simp [hk]; omega
theorem rtAt_hi {l : List Int} {k : Nat} (hk : k < l.length) (h : 16 ≤ l[k]) : rtAt l k = false := by unfold rtAt inR; simp [hk]; omega
theorem rtAt_0 {l : List Int} (hk : 0 < l.length) (h : ¬ l[0] < 0) (h2 : ¬ 16 ≤ l[0]) : rtAt l 0 = true := by unfold rtAt inR; simp [hk]; omega
theorem rtAt_s {l : List Int} {j : Nat} (hk : j + 1 < l.length) (h : ¬ l[j + 1] < 0) (h2 : ¬ 16 ≤ l[j + 1]) : rtAt l (j + 1) = decide (l[j]'(by omega) < l[j + 1]) := by
  unfold rtAt inR
  simp [hk, show j < l.length by omega]
  omega
theorem wrap_id_z (z : Int) (h1 : -9223372036854775808 ≤ z) (h2 : z ≤ 9223372036854775807) : IntKind.i64.wrap z = z := by rw [IntKind.wrap_i64]; omega
theorem rtAt_k {l : List Int} {k : Nat} (hk : k < l.length) (h0 : k ≠ 0) (h : ¬ l[k] < 0) (h2 : ¬ 16 ≤ l[k]) : rtAt l k = !decide (l[k] ≤ l[k - 1]'(by omega)) := by
  unfold rtAt inR
  rw [Bool.eq_iff_iff]
  simp [hk, h0, show k - 1 < l.length by omega]
  omega
set_option maxHeartbeats 2000000 in
theorem rrs_any (v : Value) (l : List Int) (w : World) (hl : l.length ≤ 17592186044416) (h : IntsR w v l) : Calls Try.prog 60 #[v] w fun e w' => e = .returned (.bool (rtB l)) ∧ w.grownBy w' none := by
  obtain ⟨a1, c1, rfl⟩ := h.len
  have HH := hid_mk h
  clear h
  have HF := hid_mk (fun (i : Nat) (hi : i < l.length) (h : rtAt l i = false) => rtB_not hi h)
  have HT := hid_mk (@rtB_of l)
  go_enter Try.func60, Try.ntmps60
  go_wp2_with fail
  go_loopg [3] l.length (fun g iv W => ∃ k : Nat, k ≤ l.length ∧ g = l.length - k ∧ iv = .int .i64 k ∧ (∃ m, W = w.drewN m) ∧ Hid (∀ (i : Nat), i < k → rtAt l i = true))
  case atStart => exact ⟨0, Nat.zero_le _, rfl, rfl, ⟨0, rfl⟩, hid_mk (fun i h => by omega)⟩
  case round =>
    obtain ⟨k, hk, hgk, rfl, ⟨m, rfl⟩, H⟩ := hrel
    have HS : Hid (rtAt l k = true → ∀ (i : Nat), i < k + 1 → rtAt l i = true) := hid_mk (fun h i hi => by
      rcases Nat.lt_succ_iff_lt_or_eq.1 hi with h2 | h2
      · exact H.out i h2
      · rw [h2]; exact h)
    by_cases hlt : k < l.length
    · obtain ⟨b, off, cap, e, hc⟩ := HH.out.get k hlt
      injection e with e1 e2 e3
      subst e1
      clear e2 e3
      have hkI : (k : Int) < (l.length : Int) := by omega
      have hkI0 : (0 : Int) ≤ (k : Int) := by omega
      by_cases h0 : k = 0
      · subst h0
        have hc0 : w.cell? ⟨b, off, none⟩ = some (.int .i64 l[0]) := hc
        have hg0 : decide ((0 : Int) < 0) = false := by decide
        have HL := hid_mk (fun h => HF.out 0 hlt (rtAt_lo hlt h))
        have HU := hid_mk (fun h => HF.out 0 hlt (rtAt_hi hlt h))
        have HO := hid_mk (fun h h2 => HS.out (rtAt_0 hlt h h2))
        clear HF HT HS
        generalize l[0] = x at *
        clear hc
        by_cases hx : x < 0
        · have hxd : decide (x < 0) = true := by simpa using hx
          go_wp2_with fail
          go_quiet (fail)
          go_wp2
          go_ret
          exact ⟨ret_bool (HL.out hx).symm, by first | exact grown_drewN _ _ none | (rw [World.drewN_drewN]; exact grown_drewN _ _ none)⟩
        · have hxd : decide (x < 0) = false := by simpa using hx
          by_cases hx16 : 16 ≤ x
          · have hxd2 : decide (16 ≤ x) = true := by simpa using hx16
            go_wp2_with fail
            go_quiet (fail)
            go_wp2
            go_ret
            exact ⟨ret_bool (HU.out hx16).symm, by first | exact grown_drewN _ _ none | (rw [World.drewN_drewN]; exact grown_drewN _ _ none)⟩
          · have hxd2 : decide (16 ≤ x) = false := by simpa using hx16
            go_wp2_with fail
            go_quiet (fail)
            go_wp2
            go_roundg (l.length - 1)
            case measure => omega
            case rel => exact ⟨1, by omega, rfl, rfl, ⟨_, by first | rfl | (rw [World.drewN_drewN])⟩, hid_mk (HO.out hx hx16)⟩
      · obtain ⟨b', off', cap', e, hc'⟩ := HH.out.get (k - 1) (by omega)
        injection e with e1 e2 e3
        injection e1 with e1
        injection e1 with e1 e4
        subst e1 e4
        clear e2 e3
        have hkN : 0 < k := by omega
        have hkd : decide (0 < k) = true := by simpa using hkN
        have hk1 : (k : Int) - 1 < (l.length : Int) := by omega
        have hk10 : (0 : Int) ≤ (k : Int) - 1 := by omega
        have hk1N : ((k : Int) - 1).toNat = k - 1 := by omega
        have hk1w := wrap_id_z ((k : Int) - 1) (by omega) (by omega)
        have HL := hid_mk (fun h => HF.out k hlt (rtAt_lo hlt h))
        have HU := hid_mk (fun h => HF.out k hlt (rtAt_hi hlt h))
        have HO := hid_mk (fun h h2 => rtAt_k hlt h0 h h2)
        have HFK := hid_mk (HF.out k hlt)
        clear HF HT
        generalize hrk : rtAt l k = rk at *
        clear hrk
        generalize l[k] = x at *
        generalize l[k - 1] = p at *
        by_cases hx : x < 0
        · have hxd : decide (x < 0) = true := by simpa using hx
          go_wp2_with fail
          go_quiet (fail)
          go_wp2
          go_ret
          exact ⟨ret_bool (HL.out hx).symm, by first | exact grown_drewN _ _ none | (rw [World.drewN_drewN]; exact grown_drewN _ _ none)⟩
        · have hxd : decide (x < 0) = false := by simpa using hx
          by_cases hx16 : 16 ≤ x
          · have hxd2 : decide (16 ≤ x) = true := by simpa using hx16
            go_wp2_with fail
            go_quiet (fail)
            go_wp2
            go_ret
            exact ⟨ret_bool (HU.out hx16).symm, by first | exact grown_drewN _ _ none | (rw [World.drewN_drewN]; exact grown_drewN _ _ none)⟩
          · have hxd2 : decide (16 ≤ x) = false := by simpa using hx16
            have HOK := hid_mk (HO.out hx hx16)
            by_cases hxp : x ≤ p
            · have hxd3 : decide (x ≤ p) = true := by simpa using hxp
              go_wp2_with fail
              go_quiet (fail)
              go_wp2
              go_ret
              exact ⟨ret_bool (HFK.out (by rw [HOK.out]; simp [hxp])).symm, by first | exact grown_drewN _ _ none | (rw [World.drewN_drewN]; exact grown_drewN _ _ none)⟩
            · have hxd3 : decide (x ≤ p) = false := by simpa using hxp
              go_wp2_with fail
              go_quiet (fail)
              go_wp2
              go_roundg (l.length - (k + 1))
              case measure => omega
              case rel => exact ⟨k + 1, by omega, rfl, by go_num, ⟨_, by first | rfl | (rw [World.drewN_drewN])⟩, hid_mk (HS.out (by rw [HOK.out]; simp [hxp]))⟩
    · have hlt' : ¬ (k : Int) < l.length := by omega
      have HR := hid_mk (HT.out (fun i hi => H.out i (by omega)))
      clear HF HT HS
      by_cases h1 : 1 ≤ l.length
      · have h1' : (1 : Int) ≤ l.length := by omega
        go_wp2
        go_ret
        exact ⟨ret_bool (by rw [HR.out, Bool.eq_iff_iff]; simp [h1]; omega), grown_drewN _ _ none⟩
      · have h1' : ¬ (1 : Int) ≤ l.length := by omega
        go_wp2
        go_ret
        exact ⟨ret_bool (by rw [HR.out]; simp [h1]), grown_drewN _ _ none⟩
theorem rright_any (v : Value) (l : List Int) (w : World) (hl : l.length ≤ 17592186044416) (h : IntsR w v l) : Calls Try.prog 39 #[v] w fun e w' => e = .returned (.bool (rtB l)) ∧ w.grownBy w' none := by
  have HC := hid_mk (rrs_any v l w hl h)
  obtain ⟨a1, c1, rfl⟩ := h.len
  clear h
  go_enter Try.func39, Try.ntmps39
  go_wp2_with (go_at_call 60; refine HC.out.mono ?_; rintro e w1 ⟨rfl, hg⟩; have HG := hid_mk hg; clear hg)
  go_ret
  exact ⟨rfl, HG.out⟩
end Go.Proofs.Ytcijjepleedecaa.C
