/- Lent, Stays; the document's commands. -/
import Derived.Test.YtpncbehabfkhkaaMaL
namespace Go.Proofs.Ytpncbehabfkhkaa.W
open Go.RowKit Go.Maps
set_option linter.unusedVariables false
set_option linter.unusedSimpArgs false
set_option maxRecDepth 100000

set_option maxHeartbeats 1000000 in
theorem lent_any (v : Value) (l : List UInt8) (w : World) (h : Byt w v l) (hl : l.length + 2 ≤ 140737488355328) :
    Calls Try.prog 9 #[v] w fun e w' => ∃ g cap, e = .returned (.slice (some ⟨g, 0, none⟩) l.length cap) ∧ Own w' w.heap.size (.slice (some ⟨g, 0, none⟩) (l.length + 2) cap) (l ++ [201, 202]) ∧ w.grownBy w' none := by
  obtain ⟨av, capv, rfl⟩ := h.len
  have HB := hid_mk h
  have HO := hid_mk (own_empty w)
  clear h
  go_enter Try.func9, Try.ntmps9
  go_wp2_with (first
    | (at_builtin; refine wpList_append_new w _ rfl (.tmp 4) (.tmp 5) rfl (World.grownBy_alloc _ _ _) (.slice (some ⟨w.heap.size, 0, none⟩) 0 0) [] rfl HO.out l _ rfl (HB.out.kept (World.grownBy_alloc _ _ _)) (by simp; omega) ?_; intro a1 c1 w1 O1; simp only [List.length_nil, Nat.zero_add, List.nil_append] at O1 ⊢)
    | (at_builtin; refine wpList_append_at w _ (l.length + 2) rfl (.tmp 7) (.tmp 8) rfl (grown_trans O1.out.2.1 (World.grownBy_alloc _ _ _)) (.slice a1 l.length c1) l rfl (O1.out.1.kept (World.grownBy_alloc _ _ none) (.inl rfl)) [201, 202] _ rfl (byt_marks w1) rfl (by omega) hl ?_; intro g2 c2 w2 L2 O2))
  go_ret
  exact ⟨g2, c2, rfl, O2.out.1, O2.out.2.1⟩
set_option maxHeartbeats 2000000 in
theorem stays_any (B g cap : Nat) (l : List UInt8) (v : Value) (w : World) (h : Own w B (.slice (some ⟨g, 0, none⟩) (l.length + 2) cap) (l ++ [201, 202])) (hv : Byt w v l) (hl : l.length + 2 ≤ 140737488355328) :
    Calls Try.prog 17 #[.slice (some ⟨g, 0, none⟩) l.length cap, v] w fun e w' => e = .returned (.bool true) ∧ ∃ m, w' = w.drewN m := by
  obtain ⟨hb, c1, c2, hcap⟩ := lent_byt h
  obtain ⟨av, capv, rfl⟩ := hv.len
  have t1 := byt_drewN hb
  have t2 := byt_drewN hv
  clear h hb hv
  generalize l.length = n at *
  go_enter Try.func17, Try.ntmps17
  go_wp2
  go_quiet (fail)
  go_wp2
  go_ret
  exact ⟨rfl, _, rfl⟩

set_option maxHeartbeats 1000000 in
theorem text_any (v : Value) (d : List UInt8) (w : World) (h : Byt w v d) (hd : d.length ≤ 1048576) : Calls Try.prog 39 #[v] w fun e w' => ∃ v', e = .returned v' ∧ Own w' w.heap.size v' (txtB d) ∧ w.grownBy w' none := by
  obtain ⟨av, cv, rfl⟩ := h.len
  have HB := hid_mk h
  have hm : d.length < 281474976710656 := by omega
  have h7 := numB_le hm
  clear h
  go_enter Try.func39, Try.ntmps39
  go_wp2_with fail
  refine (rnumber_any d.length w hm).mono ?_
  rintro e w1 ⟨v', rfl, ho, hg⟩
  obtain ⟨a, c, rfl⟩ := ho.len
  have H1 := hid_mk (And.intro ho hg)
  clear ho hg
  go_wp2_with (at_builtin; refine wpList_append_new w _ rfl (.tmp 5) (.tmp 6) rfl H1.out.2 _ (numB d.length) rfl H1.out.1 d _ rfl (HB.out.kept H1.out.2) (by omega) ?_; intro a1 c1 w2 P1)
  go_ret
  exact ⟨_, rfl, P1.out.1, P1.out.2.1⟩

theorem rnumOk_any (n : Int) (w : World) : Calls Try.prog 37 #[.int .i64 n] w fun e w' => e = .returned (.bool (inN 1 n 1099511627775)) ∧ w' = w := by
  by_cases h1 : 1 ≤ n
  · by_cases h2 : n < 1099511627776
    · rw [show inN 1 n 1099511627775 = true from inN_iff.2 ⟨h1, by omega⟩]
      go_enter Try.func37, Try.ntmps37
      go_wp2
      go_ret
      exact ⟨rfl, rfl⟩
    · rw [show inN 1 n 1099511627775 = false by unfold inN; rw [decide_eq_false (show ¬ n ≤ 1099511627775 by omega)]; simp]
      go_enter Try.func37, Try.ntmps37
      go_wp2
      go_ret
      exact ⟨rfl, rfl⟩
  · rw [show inN 1 n 1099511627775 = false by unfold inN; rw [decide_eq_false h1]; rfl]
    go_enter Try.func37, Try.ntmps37
    go_wp2
    go_ret
    exact ⟨rfl, rfl⟩
theorem ropen_any (w : World) : Calls Try.prog 15 #[] w fun e w' => ∃ a c, e = .returned (.slice a openB.length c) ∧ Own w' w.heap.size (.slice a openB.length c) openB ∧ w.grownBy w' none := by
  have e1 : openB = numB 1 := by simp [openB, numsB]
  rw [e1]
  go_enter Try.func15, Try.ntmps15
  go_wp2_with fail
  refine (rnumber_any 1 w (by omega)).mono ?_
  rintro e w1 ⟨v', rfl, ho, hg⟩
  obtain ⟨a, c, rfl⟩ := ho.len
  have H1 := hid_mk (And.intro ho hg)
  clear ho hg
  generalize hn : (numB 1).length = n at *
  have HN := hid_mk hn
  clear hn
  go_wp2_with fail
  go_ret
  rw [HN.out]
  exact ⟨a, c, rfl, H1.out.1, H1.out.2⟩
theorem rtrim_bad (t : Int) (w : World) (h : inN 0 t 1099511627775 = false) : Calls Try.prog 13 #[.int .i64 t] w fun e w' => e = .returned (.tuple #[.slice none 0 0, .int .i64 1]) ∧ w' = w := by
  by_cases h1 : t < 0
  · clear h
    go_enter Try.func13, Try.ntmps13
    go_wp2
    go_ret2
    exact ⟨rfl, rfl⟩
  · have h2 : 1099511627776 ≤ t := by
      by_cases h2 : 1099511627776 ≤ t
      · exact h2
      · have h3 := (inN_iff (a := 0) (n := t) (b := 1099511627775)).2 ⟨by omega, by omega⟩
        rw [h] at h3; cases h3
    clear h
    go_enter Try.func13, Try.ntmps13
    go_wp2
    go_ret2
    exact ⟨rfl, rfl⟩
set_option maxHeartbeats 1000000 in
theorem rtrim_ok (t : Nat) (w : World) (h : t ≤ 1099511627775) : Calls Try.prog 13 #[.int .i64 t] w (OkPost (trimB t) 0 w) := by
  have n1 : ¬ ((t : Int) < 0) := by omega
  have n2 : ¬ ((1099511627776 : Int) ≤ (t : Int)) := by omega
  have e1 : trimB t = numB 3 ++ numB t := by simp [trimB, numsB]
  rw [e1]
  have h3 := numB_le (n := 3) (by omega)
  have ht := numB_le (n := t) (by omega)
  clear e1
  go_enter Try.func13, Try.ntmps13
  go_wp2_with fail
  refine (rnumber_any 3 w (by omega)).mono ?_
  rintro e w1 ⟨v1, rfl, ho1, hg1⟩
  obtain ⟨a1, c1, rfl⟩ := ho1.len
  have H1 := hid_mk (And.intro ho1 hg1)
  clear ho1 hg1
  go_wp2_with fail
  refine (rnumber_any t w1 (by omega)).mono ?_
  rintro e w2 ⟨v2, rfl, ho2, hg2⟩
  obtain ⟨a2, c2, rfl⟩ := ho2.len
  have H2 := hid_mk (And.intro (owns_kept H1.out.1 hg2 (fun _ _ _ => by simp)) (And.intro (Own.byt ho2) (grown_trans H1.out.2 hg2)))
  clear ho2 hg2 H1
  go_wp2_with (at_builtin; refine wpList_append_new w _ rfl (.tmp 10) (.tmp 12) rfl H2.out.2.2 _ (numB 3) rfl H2.out.1 (numB t) _ rfl H2.out.2.1 (by omega) ?_; intro a3 c3 w3 P3)
  go_ret2
  refine ⟨a3, c3, by rw [List.length_append]; rfl, ?_, P3.out.2.1⟩
  rw [List.length_append]
  exact P3.out.1
theorem rput_arg (s q : Int) (a : Option Addr) (n c : Nat) (w : World) (h : okC s q = false) : Calls Try.prog 11 #[.int .i64 s, .int .i64 q, .slice a n c] w fun e w' => e = .returned (.tuple #[.slice none 0 0, .int .i64 1]) ∧ w' = w := by
  unfold okC at h
  cases h1 : inN 1 s 1099511627775 with
  | false =>
    have H1 := hid_mk h1
    clear h h1
    go_enter Try.func11, Try.ntmps11
    go_wp2_with fail
    refine (rnumOk_any s w).mono ?_
    rintro e w' ⟨rfl, rfl⟩
    rw [H1.out]
    go_wp2_with fail
    go_ret2
    exact ⟨rfl, rfl⟩
  | true =>
    rw [h1, Bool.true_and] at h
    have H1 := hid_mk (And.intro h1 h)
    clear h1 h
    go_enter Try.func11, Try.ntmps11
    go_wp2_with fail
    refine (rnumOk_any s w).mono ?_
    rintro e w' ⟨rfl, rfl⟩
    rw [H1.out.1]
    go_wp2_with fail
    refine (rnumOk_any q _).mono ?_
    rintro e w' ⟨rfl, rfl⟩
    rw [H1.out.2]
    go_wp2_with fail
    go_ret2
    exact ⟨rfl, rfl⟩
theorem rput_size (s q : Int) (a : Option Addr) (n c : Nat) (w : World) (h : okC s q = true) (hn : 1024 < n) : Calls Try.prog 11 #[.int .i64 s, .int .i64 q, .slice a n c] w fun e w' => e = .returned (.tuple #[.slice none 0 0, .int .i64 6]) ∧ w' = w := by
  unfold okC at h
  rw [Bool.and_eq_true] at h
  have H1 := hid_mk h
  have hn' : (1024 : Int) < (n : Int) := by omega
  clear h
  go_enter Try.func11, Try.ntmps11
  go_wp2_with fail
  refine (rnumOk_any s w).mono ?_
  rintro e w' ⟨rfl, rfl⟩
  rw [H1.out.1]
  go_wp2_with fail
  refine (rnumOk_any q _).mono ?_
  rintro e w' ⟨rfl, rfl⟩
  rw [H1.out.2]
  go_wp2_with fail
  go_ret2
  exact ⟨rfl, rfl⟩
set_option maxHeartbeats 2000000 in
theorem rput_ok (s q : Nat) (a : Option Addr) (c : Nat) (d : List UInt8) (w : World) (h : okC s q = true) (hd : d.length ≤ 1024) (hb : Byt w (.slice a d.length c) d) : Calls Try.prog 11 #[.int .i64 s, .int .i64 q, .slice a d.length c] w (OkPost (cmdB s q d) 0 w) := by
  unfold okC at h
  rw [Bool.and_eq_true] at h
  have hs := inN_iff.1 h.1
  have hq := inN_iff.1 h.2
  have H0 := hid_mk h
  have HB := hid_mk hb
  have hn' : ¬ (1024 : Int) < (d.length : Int) := by omega
  have h2 := numB_le (n := 2) (by omega)
  have h3 := numB_le (n := s) (by omega)
  have h4 := numB_le (n := q) (by omega)
  have h5 : (txtB d).length ≤ 2000 := by unfold txtB; rw [List.length_append]; have := numB_le (n := d.length) (by omega); omega
  have HE := hid_mk (cmd_at s q d)
  clear h hb
  go_enter Try.func11, Try.ntmps11
  go_wp2_with fail
  refine (rnumOk_any s w).mono ?_
  rintro e w' ⟨rfl, rfl⟩
  rw [H0.out.1]
  go_wp2_with fail
  refine (rnumOk_any q _).mono ?_
  rintro e w' ⟨rfl, rfl⟩
  rw [H0.out.2]
  go_wp2_with fail
  refine (rnumber_any 2 w' (by omega)).mono ?_
  rintro e w1 ⟨v1, rfl, ho1, hg1⟩
  obtain ⟨a1, c1, rfl⟩ := ho1.len
  have H1 := hid_mk (And.intro ho1 hg1)
  clear ho1 hg1
  go_wp2_with fail
  refine (rnumber_any s w1 (by omega)).mono ?_
  rintro e w2 ⟨v2, rfl, ho2, hg2⟩
  obtain ⟨a2, c2, rfl⟩ := ho2.len
  have H2 := hid_mk (And.intro (owns_kept H1.out.1 hg2 (fun _ _ _ => by simp)) (And.intro (Own.byt ho2) (grown_trans H1.out.2 hg2)))
  clear ho2 hg2 H1
  go_wp2_with (at_builtin; refine wpList_append_new w' _ rfl (.tmp 20) (.tmp 22) rfl H2.out.2.2 _ (numB 2) rfl H2.out.1 (numB s) _ rfl H2.out.2.1 (by omega) ?_; intro a3 c3 w3 P3)
  refine (rnumber_any q w3 (by omega)).mono ?_
  rintro e w4 ⟨v4, rfl, ho4, hg4⟩
  obtain ⟨a4, c4, rfl⟩ := ho4.len
  have H4 := hid_mk (And.intro (show Own w4 w'.heap.size (.slice a3 ((numB 2).length + (numB s).length) c3) (numB 2 ++ numB s) from owns_kept P3.out.1 hg4 (fun _ _ _ => by simp)) (And.intro (Own.byt ho4) (grown_trans P3.out.2.1 hg4)))
  clear ho4 hg4 P3 H2
  go_wp2_with (at_builtin; refine wpList_append_new w' _ rfl (.tmp 24) (.tmp 26) rfl H4.out.2.2 _ (numB 2 ++ numB s) (by simp [Act.eval, Act.put]) H4.out.1 (numB q) _ rfl H4.out.2.1 (by rw [List.length_append]; omega) ?_; intro a5 c5 w5 P5)
  refine (text_any _ d w5 (HB.out.kept P5.out.2.1) (by omega)).mono ?_
  rintro e w6 ⟨v6, rfl, ho6, hg6⟩
  obtain ⟨a6, c6, rfl⟩ := ho6.len
  have H6 := hid_mk (And.intro (show Own w6 w'.heap.size (.slice a5 ((numB 2).length + (numB s).length + (numB q).length) c5) (numB 2 ++ numB s ++ numB q) by
    have := owns_kept P5.out.1 hg6 (fun _ _ _ => by simp)
    rw [List.length_append] at this
    exact this) (And.intro (Own.byt ho6) (grown_trans P5.out.2.1 hg6)))
  clear ho6 hg6 P5 H4
  go_wp2_with (at_builtin; refine wpList_append_new w' _ rfl (.tmp 27) (.tmp 29) rfl H6.out.2.2 _ (numB 2 ++ numB s ++ numB q) (by simp [Act.eval, Act.put]) H6.out.1 (txtB d) _ rfl H6.out.2.1 (by simp only [List.length_append]; omega) ?_; intro a7 c7 w7 P7)
  go_ret2
  have e1 : cmdB s q d = numB 2 ++ numB s ++ numB q ++ txtB d := by rw [HE.out]; simp
  have e2 : (cmdB s q d).length = (numB 2 ++ numB s ++ numB q).length + (txtB d).length := by rw [e1, List.length_append]
  refine ⟨a7, c7, ?_, ?_, P7.out.2.1⟩
  · rw [e2]; simp [List.length_append]
  · rw [e2, e1]; exact P7.out.1

end Go.Proofs.Ytpncbehabfkhkaa.W
