/- conf: inside, ConfMeet: the walks. -/
import Derived.Test.YtnbhecmbndaifaaCfJ
namespace Go.Proofs.Ytnbhecmbndaifaa
open Go.RowKit Go.Maps
set_option linter.unusedVariables false
set_option linter.unusedSimpArgs false
set_option maxRecDepth 100000

theorem ins_take_yes {l who : List Int} {k : Nat} (hk : k < l.length) (h : decide (l[k] ∈ who) = true) : ins (l.take (k + 1)) who = ins (l.take k) who ++ [l[k]] := by
  unfold ins
  rw [List.take_add_one, List.getElem?_eq_getElem hk, Option.toList_some, List.filter_append]
  simp at h
  simp [h]
theorem ins_take_no {l who : List Int} {k : Nat} (hk : k < l.length) (h : decide (l[k] ∈ who) = false) : ins (l.take (k + 1)) who = ins (l.take k) who := by
  unfold ins
  rw [List.take_add_one, List.getElem?_eq_getElem hk, Option.toList_some, List.filter_append]
  simp at h
  simp [h]
theorem ins_le (l who : List Int) (k : Nat) : (ins (l.take k) who).length ≤ l.length := by
  have h1 := List.length_filter_le (fun x => decide (x ∈ who)) (l.take k)
  have h2 : (l.take k).length ≤ l.length := by rw [List.length_take]; omega
  unfold ins
  omega
set_option maxHeartbeats 1000000 in
theorem inside_any (v u : Value) (l y : List Int) (w : World) (h : Nums w v l) (k : Nums w u y) (hl1 : l.length < 17592186044416) : Calls Try.prog 24 #[v, u] w fun e w' => ∃ a c, e = .returned (.slice a (ins l y).length c) ∧ IntsR w' (.slice a (ins l y).length c) (ins l y) ∧ w.grownBy w' none := by
  obtain ⟨a1, c1, rfl⟩ := h.1.len
  obtain ⟨a2, c2, rfl⟩ := k.1.len
  have HH := hid_mk (And.intro h k)
  have hl := h.2
  have hly := k.2
  clear h k
  go_enter Try.func24, Try.ntmps24
  go_wp2
  go_loopg [5, 6] l.length (fun g ov iv W => ∃ (k n : Nat) (a : Option Addr) (c : Nat), k ≤ l.length ∧ g = l.length - k ∧ iv = .int .i64 k ∧ ov = .slice a n c ∧ Hid (n = (ins (l.take k) y).length ∧ OwnI W w.heap.size (.slice a n c) (ins (l.take k) y) ∧ w.grownBy W none))
  case atStart => exact ⟨0, 0, none, 0, Nat.zero_le _, rfl, rfl, rfl, hid_mk ⟨rfl, OwnI.nil _ _, grown_refl _ _⟩⟩
  case round =>
    obtain ⟨k, n, a, c, hk, hgk, rfl, rfl, H⟩ := hrel
    rename World => W
    by_cases hlt : k < l.length
    · have hlt' : (k : Int) < l.length := by omega
      obtain ⟨b, off, cap, e, hc⟩ := (HH.out.1.kept H.out.2.2).1.get k hlt
      injection e with e1 e2 e3
      subst e1
      clear e2 e3
      have HY := hid_mk (@ins_take_yes l y k hlt)
      have HN := hid_mk (@ins_take_no l y k hlt)
      have HM := hid_mk (fun (j : Nat) (hj : j < y.length) => show y.take (j + 1) = y.take j ++ [y[j]] by rw [List.take_add_one, List.getElem?_eq_getElem hj]; rfl)
      have HLk := hid_mk (ins_le l y k)
      generalize l[k] = x at *
      go_wp2
      go_loopg [7, 8] y.length (fun g mv jv W2 => ∃ (j m : Nat) (bb : Bool), j ≤ y.length ∧ g = y.length - j ∧ jv = .int .i64 j ∧ mv = .bool bb ∧ W2 = W.drewN m ∧ Hid (bb = decide (x ∈ y.take j)))
      case atStart => exact ⟨0, 0, false, Nat.zero_le _, rfl, rfl, rfl, rfl, hid_mk (by simp)⟩
      case round =>
        obtain ⟨j, m, bb, hj, hgj, rfl, rfl, rfl, HB⟩ := hrel
        by_cases hjk : j < y.length
        · have hjk' : (j : Int) < y.length := by omega
          obtain ⟨b2, off2, cap2, e, hc2⟩ := (HH.out.2.kept H.out.2.2).1.get j hjk
          injection e with e1 e2 e3
          subst e1
          clear e2 e3
          have HJ := hid_mk (HM.out j hjk)
          generalize hy : y[j] = z at *
          clear hy
          cases bb
          · by_cases hxy : z = x
            · subst hxy
              go_wp2
              go_quiet (fail)
              go_wp2
              go_roundg (y.length - (j + 1))
              case measure => omega
              case rel => exact ⟨j + 1, _, true, by omega, rfl, by go_num, rfl, by first | rfl | (rw [World.drewN_drewN]), hid_mk (by rw [HJ.out]; simp)⟩
            · have hxy' : (z == x) = false := by simp [hxy]
              go_wp2
              go_quiet (fail)
              go_wp2
              go_roundg (y.length - (j + 1))
              case measure => omega
              case rel => exact ⟨j + 1, _, false, by omega, rfl, by go_num, rfl, by first | rfl | (rw [World.drewN_drewN]), hid_mk (by rw [HJ.out]; have := HB.out; simp at this; simp [this]; exact fun e => hxy e.symm)⟩
          · go_wp2
            go_quiet (fail)
            go_wp2
            go_roundg (y.length - (j + 1))
            case measure => omega
            case rel => exact ⟨j + 1, _, true, by omega, rfl, by go_num, rfl, by first | rfl | (rw [World.drewN_drewN]), hid_mk (by rw [HJ.out]; have := HB.out; simp at this; simp [this])⟩
        · have hjk' : ¬ (j : Int) < y.length := by omega
          have HBa : Hid (decide (x ∈ y) = bb) := hid_mk (by rw [HB.out, List.take_of_length_le (by omega)])
          clear HB
          obtain ⟨hn, _, _⟩ := H.out
          cases bb
          · have HE := hid_mk (HN.out HBa.out)
            clear hn
            go_wp2
            go_roundg (l.length - (k + 1))
            case measure => omega
            case rel => exact ⟨k + 1, n, a, c, by omega, rfl, by go_num, rfl, hid_mk ⟨by rw [HE.out]; exact H.out.1, by rw [HE.out]; exact H.out.2.1.kept (grown_drewN _ _ none), grown_trans H.out.2.2 (grown_drewN _ _ none)⟩⟩
          · have HE := hid_mk (HY.out HBa.out)
            subst hn
            go_wp2_with (at_builtin; refine wp_appi (grown_trans H.out.2.2 (grown_drewN _ _ none)) (H.out.2.1.kept (grown_drewN _ _ none)) x _ rfl (by have := HLk.out; omega) rfl _ _ rfl rfl rfl ?_; intro a3 c3 W3 H3)
            go_roundg (l.length - (k + 1))
            case measure => omega
            case rel => exact ⟨k + 1, _, a3, c3, by omega, rfl, by go_num, rfl, hid_mk ⟨by rw [HE.out]; simp, by rw [HE.out]; exact H3.out.1, H3.out.2⟩⟩
    · have hlt' : ¬ (k : Int) < l.length := by omega
      go_wp2
      go_ret
      have h2 := H.out
      rw [List.take_of_length_le (by omega)] at h2
      obtain ⟨rfl, h3, h4⟩ := h2
      exact ⟨a, c, rfl, h3.ints, h4⟩
set_option maxHeartbeats 1000000 in
theorem confMeet_walk (v : Value) (l : List Int) (add : Bool) (id : Int) (u t : Value) (a b : List Int) (w : World) (h : Nums w v l) (hl1 : l.length < 17592186044416) (k : Nums w u a) (j : Nums w t b) : Calls Try.prog 7 #[v, .bool add, .int .i64 id, u, t] w fun e w' => e = .returned (.bool true) ∧ w.grownBy w' none := by
  obtain ⟨a1, c1, rfl⟩ := h.1.len
  obtain ⟨a2, c2, rfl⟩ := k.1.len
  obtain ⟨a3, c3, rfl⟩ := j.1.len
  have HH := hid_mk (And.intro h (And.intro k j))
  have hl := h.2
  have HC := hid_mk (change_any _ l add id w hl h.1)
  clear h k j
  go_enter Try.func7, Try.ntmps7
  go_wp2_with fail
  refine HC.out.mono ?_
  rintro e w1 ⟨a4, c4, rfl, ho, hg⟩
  have H1 := hid_mk (And.intro ho.ints hg)
  clear ho hg HC
  by_cases h0 : chE l add id = 0
  · have HM := hid_mk (fun h1 h2 => ch_meet (a := a) (b := b) h0 rfl h1 h2)
    have HL := hid_mk (ch_len_le l add id)
    have HL16 := hid_mk (show (chL l add id).length < 17592186044416 by
      unfold chL
      rw [if_pos h0]
      have := mk_len_le l add id 16
      have e : mk l add id = (up16.take 16).filter (mkP l add id) := rfl
      rw [e]; omega)
    rw [h0]
    clear h0
    generalize chL l add id = M at *
    go_wp2_with (go_at_call 19; refine (num_any _ _).mono ?_; rintro e w2 ⟨rfl, hw⟩; rw [hw]; clear hw)
    refine (inside_any _ _ l a w1 (HH.out.1.kept H1.out.2) (HH.out.2.1.kept H1.out.2) hl1).mono ?_
    rintro e w3 ⟨a5, c5, rfl, hi5, hg⟩
    have H3 := hid_mk (And.intro hi5 (And.intro (H1.out.1.kept hg) (grown_trans H1.out.2 hg)))
    have hx5 := ins_le l a l.length
    rw [List.take_length] at hx5
    clear hi5 hg H1
    go_wp2_with fail
    refine (inside_any _ _ M b w3 ⟨H3.out.2.1, HL.out⟩ (HH.out.2.2.kept H3.out.2.2) HL16.out).mono ?_
    rintro e w4 ⟨a6, c6, rfl, hi6, hg⟩
    have H4 := hid_mk (And.intro (H3.out.1.kept hg) (And.intro hi6 (grown_trans H3.out.2.2 hg)))
    have hx6 := ins_le M b M.length
    rw [List.take_length] at hx6
    have HLM := HL.out
    clear hi6 hg H3
    have HQ1 := hid_mk (fun W => quorum_any a1 l.length c1 W hl)
    have HQ2 := hid_mk (fun W => quorum_any a4 M.length c4 W HLM)
    generalize ins l a = X at *
    generalize ins M b = Y at *
    obtain ⟨q1, hq1⟩ : ∃ q1, q1 = l.length / 2 + 1 := ⟨_, rfl⟩
    obtain ⟨q2, hq2⟩ : ∃ q2, q2 = M.length / 2 + 1 := ⟨_, rfl⟩
    rw [← hq1] at HQ1 HM
    rw [← hq2] at HQ2 HM
    clear hq1 hq2
    by_cases h1 : X.length < q1
    · have h1' : (X.length : Int) < q1 := by omega
      go_wp2_with (first
        | (go_at_call 13; refine (HQ1.out _).mono ?_; rintro e w2 ⟨rfl, hw⟩; rw [hw]; clear hw)
        | (go_at_call 16; refine (knows_any _).mono ?_; rintro e W8 ⟨rfl, hg⟩; have G8 := hid_mk hg; clear hg))
      go_ret
      exact ⟨rfl, grown_trans H4.out.2.2 G8.out⟩
    · have h1' : ¬ (X.length : Int) < q1 := by omega
      by_cases h2 : Y.length < q2
      · have h2' : (Y.length : Int) < q2 := by omega
        go_wp2_with fail
        refine (HQ1.out _).mono ?_
        rintro e w2 ⟨rfl, hw⟩
        rw [hw]
        clear hw
        go_wp2_with fail
        refine (HQ2.out _).mono ?_
        rintro e w2 ⟨rfl, hw⟩
        rw [hw]
        clear hw
        go_wp2_with (go_at_call 16; refine (knows_any _).mono ?_; rintro e W8 ⟨rfl, hg⟩; have G8 := hid_mk hg; clear hg)
        go_ret
        exact ⟨rfl, grown_trans H4.out.2.2 G8.out⟩
      · have h2' : ¬ (Y.length : Int) < q2 := by omega
        have HX := hid_mk (HM.out (by omega) (by omega))
        clear HM
        go_wp2_with fail
        refine (HQ1.out _).mono ?_
        rintro e w2 ⟨rfl, hw⟩
        rw [hw]
        clear hw
        go_wp2_with fail
        refine (HQ2.out _).mono ?_
        rintro e w2 ⟨rfl, hw⟩
        rw [hw]
        clear hw
        go_wp2_with fail
        clear h1 h2 h1' h2' HQ1 HQ2
        go_loopg [15] X.length (fun g iv W => ∃ (k : Nat), k ≤ X.length ∧ g = X.length - k ∧ iv = .int .i64 k ∧ Hid ((∃ x ∈ X.drop k, x ∈ Y) ∧ IntsR W (.slice a5 X.length c5) X ∧ IntsR W (.slice a6 Y.length c6) Y ∧ w.grownBy W none))
        case atStart => exact ⟨0, Nat.zero_le _, rfl, rfl, hid_mk ⟨by simpa using HX.out, H4.out⟩⟩
        case round =>
          obtain ⟨k, hk, hgk, rfl, H⟩ := hrel
          clear H4 HX
          rename World => W
          have hlt : k < X.length := by
            obtain ⟨x, hx, _⟩ := H.out.1
            rcases Nat.lt_or_ge k X.length with h | h
            · exact h
            · rw [List.drop_of_length_le h] at hx; cases hx
          have hlt' : (k : Int) < X.length := by omega
          obtain ⟨b1, off1, cap1, e, hc1⟩ := H.out.2.1.get k hlt
          injection e with e1 e2 e3
          subst e1
          clear e2 e3
          have HD := hid_mk (show X.drop k = X[k] :: X.drop (k + 1) from List.drop_eq_getElem_cons hlt)
          generalize X[k] = x at *
          have HHs := hid_mk (has_any _ Y x W (by omega) H.out.2.2.1)
          have HN : Hid (decide (x ∈ Y) = false → ∃ z ∈ X.drop (k + 1), z ∈ Y) := hid_mk (fun hf => by
            obtain ⟨z, hz, h1⟩ := H.out.1
            rw [HD.out] at hz
            rcases List.mem_cons.1 hz with rfl | hz
            · simp [h1] at hf
            · exact ⟨z, hz, h1⟩)
          generalize decide (x ∈ Y) = m at *
          go_wp2_with fail
          refine HHs.out.mono ?_
          rintro e w5 ⟨rfl, hg⟩
          have H5 := hid_mk (And.intro (H.out.2.1.kept hg) (And.intro (H.out.2.2.1.kept hg) (grown_trans H.out.2.2.2 hg)))
          clear hg HHs hc1
          cases m
          · have HN' := hid_mk (HN.out rfl)
            clear HN H
            go_wp2
            go_roundg (X.length - (k + 1))
            case measure => omega
            case rel => exact ⟨k + 1, by omega, rfl, by go_num, hid_mk ⟨HN'.out, H5.out⟩⟩
          · clear HN H
            go_wp2_with (go_at_call 16; refine (knows_any _).mono ?_; rintro e W8 ⟨rfl, hg⟩; have G8 := hid_mk hg; clear hg)
            go_ret
            exact ⟨rfl, grown_trans H5.out.2.2 G8.out⟩
  · rw [ch_nil h0]
    have h0' : (chE l add id != 0) = true := by simp [h0]
    clear h0
    generalize chE l add id = E at *
    go_wp2_with (first
      | (go_at_call 19; refine (num_any _ _).mono ?_; rintro e w2 ⟨rfl, hw⟩; rw [hw]; clear hw)
      | (go_at_call 16; refine (knows_any _).mono ?_; rintro e W8 ⟨rfl, hg⟩; have G8 := hid_mk hg; clear hg))
    go_ret
    exact ⟨rfl, grown_trans H1.out.2 G8.out⟩
end Go.Proofs.Ytnbhecmbndaifaa
