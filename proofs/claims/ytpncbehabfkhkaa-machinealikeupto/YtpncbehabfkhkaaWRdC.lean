/- A reader: Number, Bytes, New. -/
import Derived.Test.YtpncbehabfkhkaaWRdB
namespace Go.Proofs.Ytpncbehabfkhkaa.W
open Go.RowKit Go.Maps
set_option linter.unusedVariables false
set_option linter.unusedSimpArgs false

theorem num_bad (p : Value) (e0 : Int) (he : (e0 == 0) = false) (w : World) (h : Calls Try.prog 68 #[p] w fun e w' => e = .returned (.int .i64 e0) ∧ w' = w) : Calls Try.prog 47 #[p] w fun e w' => e = .returned (.int .i64 0) ∧ w' = w := by
  have H := hid_mk h
  clear h
  go_enter Try.func47, Try.ntmps47
  go_wp2_with fail
  refine H.out.mono ?_
  rintro e w' ⟨rfl, rfl⟩
  go_wp2
  go_ret
  exact ⟨rfl, rfl⟩
theorem byt_bad (p : Value) (e0 : Int) (he : (e0 == 0) = false) (w : World) (h : Calls Try.prog 68 #[p] w fun e w' => e = .returned (.int .i64 e0) ∧ w' = w) : Calls Try.prog 71 #[p] w fun e w' => e = .returned (.slice none 0 0) ∧ w' = w := by
  have H := hid_mk h
  clear h
  go_enter Try.func71, Try.ntmps71
  go_wp2_with fail
  refine H.out.mono ?_
  rintro e w' ⟨rfl, rfl⟩
  go_wp2
  go_ret
  exact ⟨rfl, rfl⟩

theorem readN_bad {s : St} (h : s.e ≠ 0) : readN s = (0, s) := by unfold readN; rw [if_pos h]
theorem readN_ok {s : St} (h : s.e = 0) : readN s = ((numR s.rest).1, ⟨s.rest.drop (numR s.rest).2.1, (numR s.rest).2.2⟩) := by unfold readN; rw [if_neg (by omega)]
theorem readB_bad {s : St} (h : s.e ≠ 0) : readB s = ([], s) := by unfold readB; rw [if_pos h]
theorem readB_ok {s : St} (h : s.e = 0) : readB s = ((bytR s.rest).1, ⟨s.rest.drop (bytR s.rest).2.1, (bytR s.rest).2.2⟩) := by unfold readB; rw [if_neg (by omega)]

set_option maxHeartbeats 1000000 in
theorem num_rd (M N b : Nat) (s : St) (w : World) (h : Rd w M N b s) (hL : s.rest.length ≤ 140737488355328) :
    Calls Try.prog 47 #[.pointer (some ⟨b, 0, none⟩)] w fun e w' => e = .returned (.int .i64 (readN s).1) ∧ Rd w' M N b (readN s).2 ∧ w.grownBy w' (some b) := by
  by_cases he : s.e ≠ 0
  · rw [readN_bad he]
    refine (num_bad _ s.e (by simp; omega) w (err_rd M N b s w h)).mono ?_
    rintro e w' ⟨rfl, rfl⟩
    exact ⟨rfl, h, grown_refl _ _⟩
  · have he0 : s.e = 0 := by omega
    rw [readN_ok he0]
    obtain ⟨a, c, c0, c1, c2, hy, hb⟩ := h.cells
    have H := hid_mk h
    have HY := hid_mk hy
    have HN := hid_mk (numV_of (l := s.rest) (n := (numR s.rest).1) (s := (numR s.rest).2.1) (e := (numR s.rest).2.2) rfl)
    have HE := hid_mk (err_rd M N b s w h)
    rw [he0] at HE
    have HP := hid_mk (pass_any M N b s (numR s.rest).2.1 (numR s.rest).2.2 w h he0 (numR_size _))
    generalize (numR s.rest).1 = n at *
    generalize (numR s.rest).2.1 = m at *
    generalize (numR s.rest).2.2 = er at *
    clear h hy hb c0
    go_enter Try.func47, Try.ntmps47
    go_wp2_with (first
      | (go_at_call 68; refine HE.out.mono ?_; rintro e wx ⟨rfl, rfl⟩)
      | (go_at_call 69; refine (number_any _ s.rest _ HY.out.byt hL).mono ?_; rintro e wy ⟨rfl, rfl⟩; rw [HN.out])
      | (go_at_call 70; refine HP.out.mono ?_; rintro e w3 ⟨rfl, hr3, hg3⟩; have H3 := hid_mk (And.intro hr3 hg3); clear hr3 hg3))
    go_ret
    exact ⟨rfl, H3.out.1, H3.out.2⟩

theorem Own.but {w w' : World} {B r : Nat} {v : Value} {l : List UInt8} (h : Own w B v l) (hg : w.grownBy w' (some r)) (hr : r < B) : Own w' B v l := h.kept_low hg hr

set_option maxHeartbeats 1000000 in
theorem byt_rd (M N b : Nat) (s : St) (w : World) (h : Rd w M N b s) (hN : N ≤ w.heap.size) (hL : s.rest.length ≤ 140737488355328) :
    Calls Try.prog 71 #[.pointer (some ⟨b, 0, none⟩)] w fun e w' => ∃ v', e = .returned v' ∧ Own w' w.heap.size v' (readB s).1 ∧ Rd w' M N b (readB s).2 ∧ w.grownBy w' (some b) := by
  by_cases he : s.e ≠ 0
  · rw [readB_bad he]
    refine (byt_bad _ s.e (by simp; omega) w (err_rd M N b s w h)).mono ?_
    rintro e w' ⟨rfl, rfl⟩
    exact ⟨_, rfl, World.ownsRow_nil _ _ _ _, h, grown_refl _ _⟩
  · have he0 : s.e = 0 := by omega
    rw [readB_ok he0]
    obtain ⟨a, c, c0, c1, c2, hy, hb⟩ := h.cells
    have H := hid_mk h
    have HY := hid_mk hy
    have HE := hid_mk (err_rd M N b s w h)
    rw [he0] at HE
    have HC := hid_mk (counted_any M N _ s.rest w hy hL)
    have HP := hid_mk (pass_any M N b s (bytR s.rest).2.1 (bytR s.rest).2.2 w h he0 (bytR_size _))
    have HL := hid_mk (show (bytR s.rest).1.length ≤ 140737488355328 by
      by_cases hz : (bytR s.rest).2.2 = 0
      · have := (bytR_get (l := s.rest) (d := (bytR s.rest).1) (s := (bytR s.rest).2.1) (by rw [← hz])).2.2
        omega
      · rw [(bytR_bad hz).1]; simp)
    generalize (bytR s.rest).1 = d at *
    generalize (bytR s.rest).2.1 = m at *
    generalize (bytR s.rest).2.2 = er at *
    have HB := hid_mk hb
    clear h hy hb c0
    go_enter Try.func71, Try.ntmps71
    go_wp2_with (go_at_call 68; refine HE.out.mono ?_; rintro e wx ⟨rfl, rfl⟩)
    refine HC.out.mono ?_
    rintro e wy ⟨dv, rfl, hd, rfl⟩
    obtain ⟨da, dc, rfl⟩ := hd.len
    have HD := hid_mk hd
    have HDN := hid_mk (fun h0 => rd_ne HB.out hd h0)
    clear hd
    go_wp2_with (go_at_call 70; refine HP.out.mono ?_; rintro e w3 ⟨rfl, hr3, hg3⟩; have H3 := hid_mk (And.intro hr3 hg3); clear hr3 hg3)
    have hd3 : Byt w3 (.slice da d.length dc) d := by
      rcases HD.out with hh | ⟨b', off', cap', e', hcap, hc⟩
      · exact .inl hh
      · refine .inr ⟨b', off', cap', e', hcap, fun j u hj => H3.out.2.cell (hc j u hj) (fun heq => ?_)⟩
        injection e' with e1 e2 e3
        subst e1
        injection heq with heq
        exact HDN.out (by have := (List.getElem?_eq_some_iff.1 hj).1; omega) _ _ _ rfl heq
    refine (clone_any _ d w3 hd3 HL.out).mono ?_
    rintro e w4 ⟨v4, rfl, ho4, hg4⟩
    have H4 := hid_mk (And.intro ho4 hg4)
    clear ho4 hg4 hd3
    go_wp2
    go_ret
    exact ⟨v4, rfl, H4.out.1.base H3.out.2.size, H3.out.1.kept H4.out.2 (fun r hr => by cases hr), grown_trans H3.out.2 (grown_any H4.out.2 _)⟩

/-! ### Made -/
theorem over_any (M N : Nat) (v : Value) (l : List UInt8) (w : World) (h : BytIn w M N v l) (hM : M ≤ w.heap.size) (hN : N ≤ w.heap.size) :
    Calls Try.prog 67 #[v] w fun e w' => e = .returned (.pointer (some ⟨w.heap.size, 0, none⟩)) ∧ Rd w' M (w.heap.size + 1) w.heap.size ⟨l, 0⟩ ∧ w.grownBy w' none ∧ w'.heap.size = w.heap.size + 1 := by
  obtain ⟨a, c, rfl⟩ := h.byt.len
  have H := hid_mk h
  clear h
  go_enter Try.func67, Try.ntmps67
  go_wp2
  go_ret
  refine ⟨rfl, ⟨hM, by omega, _, heap_alloc_new _ _, (H.out.kept (World.grownBy_alloc _ _ none) (fun r hr => by cases hr)).wide (Nat.le_refl _) (by omega)⟩, World.grownBy_alloc _ _ _, by simp⟩

theorem new_any (v : Value) (l : List UInt8) (w : World) (h : Byt w v l) (hl : l.length ≤ 140737488355328) :
    Calls Try.prog 46 #[v] w fun e w' => ∃ b, e = .returned (.pointer (some ⟨b, 0, none⟩)) ∧ Rd w' w.heap.size w'.heap.size b ⟨l, 0⟩ ∧ w.grownBy w' none := by
  obtain ⟨a, c, rfl⟩ := h.len
  have H := hid_mk h
  clear h
  go_enter Try.func46, Try.ntmps46
  go_wp2_with fail
  refine (clone_any _ l w H.out hl).mono ?_
  rintro e w1 ⟨v1, rfl, ho, hg⟩
  have H1 := hid_mk (And.intro ho hg)
  clear ho hg
  go_wp2_with fail
  refine (over_any w.heap.size w1.heap.size v1 l w1 H1.out.1.inb H1.out.2.size (Nat.le_refl _)).mono ?_
  rintro e w2 ⟨rfl, hr, hg2, hs2⟩
  have H2 := hid_mk (And.intro hr (And.intro hg2 hs2))
  clear hr hg2 hs2
  go_wp2
  go_ret
  exact ⟨_, rfl, by rw [H2.out.2.2]; exact H2.out.1, grown_trans H1.out.2 H2.out.2.1⟩

end Go.Proofs.Ytpncbehabfkhkaa.W
