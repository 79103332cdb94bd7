/- WireServers: its walk. -/
import Derived.Test.YtppnmhdmpgdieaaSrvD
namespace Go.Proofs.Ytppnmhdmpgdieaa
open Go.RowKit Go.Maps
set_option linter.unusedVariables false
set_option linter.unusedSimpArgs false

theorem got_back {d : List UInt8} (h : getOk d = true) : srvL (gotL d) = d ∧ srvErr (gotL d) = 0 := by
  have hg : getS d = some (getL d) := by unfold getS; rw [if_pos h]
  obtain ⟨h1, h2⟩ := getS_get hg
  rw [(got_ok h).1, (srvL_ok h1).1, (srvL_ok h1).2]
  exact ⟨h2, rfl⟩
theorem gotL_len (d : List UInt8) : (gotL d).length ≤ 7 := by
  cases h : getOk d with
  | true =>
    have hg : getS d = some (getL d) := by unfold getS; rw [if_pos h]
    rw [(got_ok h).1]
    exact (rightS_mem (getS_get hg).1).2.1
  | false => rw [(got_bad h).1]; simp

set_option maxRecDepth 100000 in
set_option maxHeartbeats 4000000 in
theorem servers_any (lv : Value) (l : List Int) (v : Value) (d : List UInt8) (w : World) (hl : IntsR w lv l) (h : Byt w v d) (hll : l.length ≤ 17592186044416) (hd : d.length + 2 ≤ 140737488355328) :
    Calls Try.prog 5 #[lv, v] w fun e w' => e = .returned (.bool true) ∧ w.grownBy w' none := by
  obtain ⟨av, cv, rfl⟩ := h.len
  obtain ⟨la, lc, rfl⟩ := hl.len
  have HB := hid_mk h
  have HL := hid_mk hl
  have hd' : d.length ≤ 140737488355328 := by omega
  have hll' : l.length ≤ 140737488355328 := by omega
  clear h hl
  go_enter Try.func5, Try.ntmps5
  go_wp2_with fail
  refine (lent_any _ d w HB.out hd).mono ?_
  rintro e w1 ⟨g, cap, rfl, ho1, hg1⟩
  obtain ⟨hb1, _, _, hcap⟩ := lent_byt ho1
  have H1 := hid_mk (And.intro ho1 (And.intro hg1 hb1))
  clear ho1 hg1 hb1
  go_wp2_with (at_builtin; refine wp_copyi (w := w1) (W := w1) (grown_refl _ _) (HL.out.kept H1.out.2.1) hll rfl (.tmp 19) (.tmp 20) rfl rfl rfl ?_; intro a2 c2 w2 P2)
  refine (putServers_any _ l w2 P2.out.1.ints).mono ?_
  rintro e w3 ⟨a3, c3, rfl, ho3, hg3⟩
  have H3 := hid_mk (And.intro ho3 hg3)
  have G3 := hid_mk (grown_trans H1.out.2.1 (grown_trans P2.out.2 hg3))
  clear ho3 hg3
  go_wp2_with fail
  refine (rputServers_any _ l w3 (HL.out.kept G3.out) hll').mono ?_
  rintro e w4 ⟨a4, c4, rfl, ho4, hg4⟩
  have H4 := hid_mk (And.intro ho4 hg4)
  clear ho4 hg4
  go_wp2_with fail
  refine (getServers_any _ d w4 (H1.out.2.2.kept (grown_trans P2.out.2 (grown_trans H3.out.2 H4.out.2))) hd').mono ?_
  rintro e w5 ⟨a5, c5, rfl, ho5, hg5⟩
  have H5 := hid_mk (And.intro ho5 hg5)
  have G5 := hid_mk (grown_trans G3.out (grown_trans H4.out.2 hg5))
  clear ho5 hg5
  go_wp2_with fail
  refine (rgetServers_any _ d w5 (HB.out.kept G5.out) hd').mono ?_
  rintro e w6 ⟨a6, c6, rfl, ho6, hg6⟩
  have H6 := hid_mk (And.intro ho6 hg6)
  have G6 := hid_mk (grown_trans G5.out hg6)
  have t3 := (H3.out.1.byt.kept (grown_trans H4.out.2 (grown_trans H5.out.2 hg6))).text
  have t4 := (H4.out.1.byt.kept (grown_trans H5.out.2 hg6)).text
  have I5 := hid_mk (H5.out.1.ints.kept hg6)
  have I6 := hid_mk ho6.ints
  have I2 := hid_mk (P2.out.1.ints.kept (grown_trans H3.out.2 (grown_trans H4.out.2 (grown_trans H5.out.2 hg6))))
  have O1 := hid_mk (H1.out.1.kept (grown_trans P2.out.2 (grown_trans H3.out.2 (grown_trans H4.out.2 (grown_trans H5.out.2 hg6)))) (.inl rfl))
  have HG7 := hid_mk (gotL_len d)
  clear ho6 hg6
  generalize hsl : (srvL l).length = sl at *
  generalize hse : srvErr l = se at *
  generalize hgl : (gotL d).length = gl at *
  have HX := hid_mk (And.intro hsl (And.intro hse hgl))
  clear hsl hse hgl H1 H3 H4 H5 H6
  generalize hge : gotE d = ge at *
  have HGE := hid_mk hge
  clear hge
  go_wp2_with (go_at_call 14; refine (num_any _ _).mono ?_; rintro e wx ⟨rfl, rfl⟩)
  refine (ints_same _ _ (gotL d) _ I5.out I6.out (by rw [HX.out.2.2]; have := HG7.out; omega)).mono ?_
  rintro e wy ⟨rfl, m, rfl⟩
  go_wp2_with (go_at_call 14; refine (num_any _ _).mono ?_; rintro e wz ⟨rfl, hwz⟩; subst hwz)
  refine (ints_same _ _ l _ (I2.out.kept (grown_drewN _ _ none)) (HL.out.kept (grown_trans G6.out (grown_drewN _ _ none))) hll').mono ?_
  rintro e wz ⟨rfl, m2, rfl⟩
  have GD := hid_mk (show wx.grownBy ((wx.drewN m).drewN m2) none from grown_trans (grown_drewN _ m none) (grown_drewN _ m2 none))
  go_wp2_with fail
  refine (stays_any w.heap.size g cap d _ _ (O1.out.kept (by repeat (first | exact grown_drewN _ _ none | exact grown_refl _ _ | refine grown_trans ?_ (grown_drewN _ _ none))) (.inl rfl)) (HB.out.kept (grown_trans G6.out (by repeat (first | exact grown_drewN _ _ none | exact grown_refl _ _ | refine grown_trans ?_ (grown_drewN _ _ none))))) hd).mono ?_
  rintro e w7 ⟨rfl, hg7⟩
  have H7 := hid_mk (And.intro (show wx.grownBy w7 none from grown_trans (by repeat (first | exact grown_drewN _ _ none | exact grown_refl _ _ | refine grown_trans ?_ (grown_drewN _ _ none))) hg7) (show w.grownBy w7 none from grown_trans G6.out (grown_trans (by repeat (first | exact grown_drewN _ _ none | exact grown_refl _ _ | refine grown_trans ?_ (grown_drewN _ _ none))) hg7)))
  clear hg7
  cases hok : getOk d with
  | true =>
    have HBK := hid_mk (got_back hok)
    obtain rfl : ge = 0 := by rw [← HGE.out]; exact (got_ok hok).2
    clear hok
    go_wp2_with (go_at_call 14; refine (num_any _ _).mono ?_; rintro e wz ⟨rfl, rfl⟩)
    have HP := hid_mk (putServers_any _ (gotL d) wz (I5.out.kept H7.out.1))
    rw [HBK.out.1, HBK.out.2] at HP
    refine HP.out.mono ?_
    rintro e w8 ⟨a8, c8, rfl, ho8, hg8⟩
    have t8 := ho8.byt.text
    have tb := (HB.out.kept (grown_trans H7.out.2 hg8)).text
    have H8 := hid_mk hg8
    clear ho8 hg8
    go_wp2_with (first
      | (go_at_call 14; refine (num_any _ _).mono ?_; rintro e w9 ⟨rfl, rfl⟩)
      | (go_at_call 17; refine (knows_any _).mono ?_; rintro e w10 ⟨rfl, hg10⟩))
    go_ret
    exact ⟨rfl, grown_trans H7.out.2 (grown_trans H8.out hg10)⟩
  | false =>
    obtain rfl : ge = 21 := by rw [← HGE.out]; exact (got_bad hok).2
    clear hok
    go_wp2_with (first
      | (go_at_call 14; refine (num_any _ _).mono ?_; rintro e wz ⟨rfl, rfl⟩)
      | (go_at_call 17; refine (knows_any _).mono ?_; rintro e w10 ⟨rfl, hg10⟩))
    go_ret
    exact ⟨rfl, grown_trans H7.out.2 hg10⟩

end Go.Proofs.Ytppnmhdmpgdieaa
