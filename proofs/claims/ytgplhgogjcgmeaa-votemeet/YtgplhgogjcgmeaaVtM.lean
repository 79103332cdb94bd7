/- vote: VoteMeet: the walk. -/
import Derived.Test.YtgplhgogjcgmeaaVtL
namespace Go.Proofs.Ytgplhgogjcgmeaa
open Go.RowKit Go.Maps
set_option linter.unusedVariables false
set_option linter.unusedSimpArgs false
set_option maxRecDepth 100000

theorem filters_meet : ∀ (L : List Int) (p q : Int → Bool), L.length < (L.filter p).length + (L.filter q).length → ∃ x ∈ L, p x = true ∧ q x = true
  | [], p, q, h => by simp at h
  | a :: L, p, q, h => by
    by_cases hp : p a = true
    · by_cases hq : q a = true
      · exact ⟨a, by simp, hp, hq⟩
      · rw [List.filter_cons, if_pos hp, List.filter_cons, if_neg hq] at h
        obtain ⟨x, hx, h1⟩ := filters_meet L p q (by simp at h ⊢; omega)
        exact ⟨x, by simp [hx], h1⟩
    · rw [List.filter_cons, if_neg hp, List.filter_cons] at h
      obtain ⟨x, hx, h1⟩ := filters_meet L p q (by split at h <;> simp at h ⊢ <;> omega)
      exact ⟨x, by simp [hx], h1⟩
/-- Two that have won meet. -/
theorem won_meet {l a b : List Int} (ha : wonB l a = true) (hb : wonB l b = true) : ∃ x ∈ l, x ∈ a ∧ x ∈ b := by
  unfold wonB cnt at *
  simp only [decide_eq_true_iff] at ha hb
  obtain ⟨x, hx, h1, h2⟩ := filters_meet (dd l) (fun x => decide (x ∈ a)) (fun x => decide (x ∈ b)) (by omega)
  exact ⟨x, (mem_dd l x).1 hx, by simpa using h1, by simpa using h2⟩
set_option maxHeartbeats 1000000 in
theorem voteMeet_walk (v u t : Value) (l a b : List Int) (w : World) (h : Nums w v l) (k : Nums w u a) (j : Nums w t b) : Calls Try.prog 6 #[v, u, t] w fun e w' => e = .returned (.bool true) ∧ w.grownBy w' none := by
  obtain ⟨a1, c1, rfl⟩ := h.1.len
  obtain ⟨a2, c2, rfl⟩ := k.1.len
  obtain ⟨a3, c3, rfl⟩ := j.1.len
  have HH := hid_mk (And.intro h (And.intro k j))
  have hl := h.2.2
  have hla := k.2.2
  have hlb := j.2.2
  clear h k j
  have HWa := hid_mk (won_any _ _ l a w HH.out.1 HH.out.2.1)
  have HWb := hid_mk (fun W (hg : w.grownBy W none) => won_any _ _ l b W (HH.out.1.kept hg) (HH.out.2.2.kept hg))
  have HM := hid_mk (fun h1 h2 => won_meet (l := l) (a := a) (b := b) h1 h2)
  generalize wonB l a = wa at *
  generalize wonB l b = wb at *
  go_enter Try.func6, Try.ntmps6
  go_wp2_with fail
  refine HWa.out.mono ?_
  rintro e W1 ⟨rfl, hg⟩
  have H1 := hid_mk hg
  clear hg HWa
  cases wa
  · clear HWb HM
    go_wp2_with (go_at_call 15; refine (knows_any _).mono ?_; rintro e w2 ⟨rfl, hg⟩; have HG := hid_mk hg; clear hg)
    go_ret
    exact ⟨rfl, grown_trans H1.out HG.out⟩
  · go_wp2_with fail
    refine (HWb.out W1 H1.out).mono ?_
    rintro e W2 ⟨rfl, hg⟩
    have H2 := hid_mk (grown_trans H1.out hg)
    clear hg HWb H1
    cases wb
    · clear HM
      go_wp2_with (go_at_call 15; refine (knows_any _).mono ?_; rintro e w2 ⟨rfl, hg⟩; have HG := hid_mk hg; clear hg)
      go_ret
      exact ⟨rfl, grown_trans H2.out HG.out⟩
    · have HX := hid_mk (HM.out (by first | rfl | trivial) (by first | rfl | trivial))
      clear HM
      go_wp2
      go_loopg [7] l.length (fun g iv W => ∃ (k m : Nat), k ≤ l.length ∧ g = l.length - k ∧ iv = .int .i64 k ∧ W = W2.drewN m ∧ Hid (∃ x ∈ l.drop k, x ∈ a ∧ x ∈ b))
      case atStart => exact ⟨0, 0, Nat.zero_le _, rfl, rfl, rfl, hid_mk (by simpa using HX.out)⟩
      case round =>
        obtain ⟨k, m, hk, hgk, rfl, rfl, HE⟩ := hrel
        have hlt : k < l.length := by
          obtain ⟨x, hx, _⟩ := HE.out
          rcases Nat.lt_or_ge k l.length with h | h
          · exact h
          · rw [List.drop_of_length_le h] at hx; cases hx
        have hlt' : (k : Int) < l.length := by omega
        obtain ⟨b1, off1, cap1, e, hc1⟩ := (HH.out.1.kept H2.out).1.get k hlt
        injection e with e1 e2 e3
        subst e1
        clear e2 e3
        have HD := hid_mk (show l.drop k = l[k] :: l.drop (k + 1) from List.drop_eq_getElem_cons hlt)
        generalize l[k] = x at *
        have HMa := hid_mk (fun (j : Nat) (hj : j < a.length) => show a.take (j + 1) = a.take j ++ [a[j]] by rw [List.take_add_one, List.getElem?_eq_getElem hj]; rfl)
        have HMb := hid_mk (fun (j : Nat) (hj : j < b.length) => show b.take (j + 1) = b.take j ++ [b[j]] by rw [List.take_add_one, List.getElem?_eq_getElem hj]; rfl)
        go_wp2
        go_loopg [8, 10] a.length (fun g mv jv W => ∃ (j m : Nat) (bb : Bool), j ≤ a.length ∧ g = a.length - j ∧ jv = .int .i64 j ∧ mv = .bool bb ∧ W = W2.drewN m ∧ Hid (bb = decide (x ∈ a.take j)))
        case atStart => exact ⟨0, m, false, Nat.zero_le _, rfl, rfl, rfl, rfl, hid_mk (by simp)⟩
        case round =>
          obtain ⟨j, m2, bb, hj, hgj, rfl, rfl, rfl, HB⟩ := hrel
          by_cases hjk : j < a.length
          · have hjk' : (j : Int) < a.length := by omega
            obtain ⟨b2, off2, cap2, e, hc2⟩ := (HH.out.2.1.kept H2.out).1.get j hjk
            injection e with e1 e2 e3
            subst e1
            clear e2 e3
            have HJ := hid_mk (HMa.out j hjk)
            generalize hy : a[j] = z at *
            clear hy
            cases bb
            · by_cases hxy : z = x
              · subst hxy
                go_wp2
                go_quiet (fail)
                go_wp2
                go_roundg (a.length - (j + 1))
                case measure => omega
                case rel => exact ⟨j + 1, _, true, by omega, rfl, by go_num, rfl, by first | rfl | (rw [World.drewN_drewN]), hid_mk (by rw [HJ.out]; simp)⟩
              · have hxy' : (z == x) = false := by simp [hxy]
                go_wp2
                go_quiet (fail)
                go_wp2
                go_roundg (a.length - (j + 1))
                case measure => omega
                case rel => exact ⟨j + 1, _, false, by omega, rfl, by go_num, rfl, by first | rfl | (rw [World.drewN_drewN]), hid_mk (by rw [HJ.out]; have := HB.out; simp at this; simp [this]; exact fun e => hxy e.symm)⟩
            · go_wp2
              go_quiet (fail)
              go_wp2
              go_roundg (a.length - (j + 1))
              case measure => omega
              case rel => exact ⟨j + 1, _, true, by omega, rfl, by go_num, rfl, by first | rfl | (rw [World.drewN_drewN]), hid_mk (by rw [HJ.out]; have := HB.out; simp at this; simp [this])⟩
          · have hjk' : ¬ (j : Int) < a.length := by omega
            have HBa : Hid (bb = decide (x ∈ a)) := hid_mk (by rw [HB.out, List.take_of_length_le (by omega)])
            clear HB
            go_wp2
            go_loopg [9, 11] b.length (fun g mv jv W => ∃ (j m : Nat) (cc : Bool), j ≤ b.length ∧ g = b.length - j ∧ jv = .int .i64 j ∧ mv = .bool cc ∧ W = W2.drewN m ∧ Hid (cc = decide (x ∈ b.take j)))
            case atStart => exact ⟨0, m2, false, Nat.zero_le _, rfl, rfl, rfl, rfl, hid_mk (by simp)⟩
            case round =>
              obtain ⟨i, m3, cc, hi, hgi, rfl, rfl, rfl, HB⟩ := hrel
              by_cases hik : i < b.length
              · have hik' : (i : Int) < b.length := by omega
                obtain ⟨b3, off3, cap3, e, hc3⟩ := (HH.out.2.2.kept H2.out).1.get i hik
                injection e with e1 e2 e3
                subst e1
                clear e2 e3
                have HJ := hid_mk (HMb.out i hik)
                generalize hy : b[i] = z at *
                clear hy
                cases cc
                · by_cases hxy : z = x
                  · subst hxy
                    go_wp2
                    go_quiet (fail)
                    go_wp2
                    go_roundg (b.length - (i + 1))
                    case measure => omega
                    case rel => exact ⟨i + 1, _, true, by omega, rfl, by go_num, rfl, by first | rfl | (rw [World.drewN_drewN]), hid_mk (by rw [HJ.out]; simp)⟩
                  · have hxy' : (z == x) = false := by simp [hxy]
                    go_wp2
                    go_quiet (fail)
                    go_wp2
                    go_roundg (b.length - (i + 1))
                    case measure => omega
                    case rel => exact ⟨i + 1, _, false, by omega, rfl, by go_num, rfl, by first | rfl | (rw [World.drewN_drewN]), hid_mk (by rw [HJ.out]; have := HB.out; simp at this; simp [this]; exact fun e => hxy e.symm)⟩
                · go_wp2
                  go_quiet (fail)
                  go_wp2
                  go_roundg (b.length - (i + 1))
                  case measure => omega
                  case rel => exact ⟨i + 1, _, true, by omega, rfl, by go_num, rfl, by first | rfl | (rw [World.drewN_drewN]), hid_mk (by rw [HJ.out]; have := HB.out; simp at this; simp [this])⟩
              · have hik' : ¬ (i : Int) < b.length := by omega
                have HBb : Hid (cc = decide (x ∈ b)) := hid_mk (by rw [HB.out, List.take_of_length_le (by omega)])
                clear HB
                have HN : Hid ((bb && cc) = false → ∃ x ∈ l.drop (k + 1), x ∈ a ∧ x ∈ b) := hid_mk (fun hf => by
                  obtain ⟨z, hz, h1, h2⟩ := HE.out
                  rw [HD.out] at hz
                  rcases List.mem_cons.1 hz with rfl | hz
                  · rw [HBa.out, HBb.out] at hf
                    simp [h1, h2] at hf
                  · exact ⟨z, hz, h1, h2⟩)
                clear HBa HBb HE
                cases bb
                · have HN' := hid_mk (HN.out (by simp))
                  clear HN
                  go_wp2
                  go_roundg (l.length - (k + 1))
                  case measure => omega
                  case rel => exact ⟨k + 1, m3, by omega, rfl, by go_num, rfl, HN'⟩
                · cases cc
                  · have HN' := hid_mk (HN.out (by simp))
                    clear HN
                    go_wp2
                    go_roundg (l.length - (k + 1))
                    case measure => omega
                    case rel => exact ⟨k + 1, m3, by omega, rfl, by go_num, rfl, HN'⟩
                  · clear HN
                    go_wp2_with (go_at_call 15; refine (knows_any _).mono ?_; rintro e w2 ⟨rfl, hg⟩; have HG := hid_mk hg; clear hg)
                    go_ret
                    exact ⟨rfl, grown_trans H2.out (grown_trans (grown_drewN _ _ none) HG.out)⟩
end Go.Proofs.Ytgplhgogjcgmeaa
