/- vote: VoteMore: the walk. -/
import Derived.Test.YtgplhgogjcgmeaaVtL
namespace Go.Proofs.Ytgplhgogjcgmeaa
open Go.RowKit Go.Maps
set_option linter.unusedVariables false
set_option linter.unusedSimpArgs false
set_option maxRecDepth 100000

theorem filter_more : ∀ (L : List Int) (p q : Int → Bool) (z : Int), L.Nodup → (∀ x, p x = true → q x = true) → (∀ x, q x = true → p x = true ∨ x = z) → (L.filter p).length ≤ (L.filter q).length ∧ (L.filter q).length ≤ (L.filter p).length + 1 ∧ (¬ z ∈ L → (L.filter q).length = (L.filter p).length)
  | [], p, q, z, _, _, _ => by simp
  | a :: L, p, q, z, hn, h1, h2 => by
    obtain ⟨ha, hn'⟩ := List.nodup_cons.1 hn
    obtain ⟨i1, i2, i3⟩ := filter_more L p q z hn' h1 h2
    by_cases hp : p a = true
    · have hq := h1 a hp
      rw [List.filter_cons, if_pos hp, List.filter_cons, if_pos hq]
      simp only [List.length_cons]
      exact ⟨by omega, by omega, fun h => by have := i3 (fun k => h (by simp [k])); omega⟩
    · rw [List.filter_cons, if_neg hp, List.filter_cons]
      by_cases hq : q a = true
      · rw [if_pos hq]
        have ez : a = z := (h2 a hq).resolve_left hp
        subst ez
        have := i3 ha
        simp only [List.length_cons]
        exact ⟨by omega, by omega, fun h => absurd (by simp) h⟩
      · rw [if_neg hq]
        exact ⟨i1, i2, fun h => i3 (fun k => h (by simp [k]))⟩
theorem cnt_more (l y : List Int) (z : Int) : cnt l y ≤ cnt l (y ++ [z]) ∧ cnt l (y ++ [z]) ≤ cnt l y + 1 := by
  unfold cnt
  have := filter_more (dd l) (fun x => decide (x ∈ y)) (fun x => decide (x ∈ y ++ [z])) z (dd_nodup l) (fun x h => by simp at h ⊢; exact .inl h) (fun x h => by simp at h ⊢; exact h)
  exact ⟨this.1, this.2.1⟩
theorem won_more (l y : List Int) (z : Int) (h : wonB l y = true) : wonB l (y ++ [z]) = true := by
  have := (cnt_more l y z).1
  unfold wonB at *
  simp only [decide_eq_true_iff] at *
  omega
theorem won_all (l : List Int) : wonB l l = decide (0 < l.length) := by
  have hc : cnt l l = (dd l).length := by
    unfold cnt
    rw [List.filter_eq_self.2 (fun x hx => by simpa using (mem_dd l x).1 hx)]
  unfold wonB
  rw [hc, decide_eq_decide]
  constructor
  · intro h
    have := dd_len l
    omega
  · intro h
    have hm : l[0] ∈ dd l := (mem_dd l _).2 (List.getElem_mem h)
    have := List.length_pos_of_mem hm
    omega
theorem won_none (l : List Int) : wonB l [] = false := by
  unfold wonB cnt
  rw [List.filter_eq_nil_iff.2 (fun a _ => by simp)]
  simp
set_option maxHeartbeats 1000000 in
theorem voteMore_walk (v u : Value) (l y : List Int) (z : Int) (w : World) (h : Nums w v l) (k : Nums w u y) (hyl : y.length < 17592186044416) (hz : Wf z) : Calls Try.prog 8 #[v, u, .int .i64 z] w fun e w' => e = .returned (.bool true) ∧ w.grownBy w' none := by
  obtain ⟨a1, c1, rfl⟩ := h.1.len
  obtain ⟨a2, c2, rfl⟩ := k.1.len
  have HH := hid_mk (And.intro h k)
  have hl := h.2.2
  clear h k
  have HZ := hid_mk hz
  clear hz
  have HWz : Hid (∀ x ∈ y ++ [z], Wf x) := hid_mk (fun x hx => by
    rcases List.mem_append.1 hx with hx | hx
    · exact HH.out.2.2.1 x hx
    · simp at hx; subst hx; exact HZ.out)
  go_enter Try.func8, Try.ntmps8
  go_wp2_with fail
  refine (won_any _ _ l y w HH.out.1 HH.out.2).mono ?_
  rintro e W1 ⟨rfl, hg⟩
  have H1 := hid_mk hg
  clear hg
  go_wp2_with (first
    | (at_builtin; refine wp_copyi (grown_refl W1 none) (HH.out.2.1.kept H1.out) HH.out.2.2.2 rfl _ _ rfl rfl rfl ?_; intro aa ac W2 H2)
    | (at_builtin; refine wp_appi H2.out.2 H2.out.1 z y.length rfl hyl rfl _ _ rfl rfl rfl ?_; intro ba bc W3 H3))
  have HN3 : Hid (Nums W3 (.slice ba (y.length + 1) bc) (y ++ [z]) ∧ w.grownBy W3 none) := hid_mk ⟨H3.out.1.nums HWz.out (by simp; omega), grown_trans H1.out H3.out.2⟩
  clear H1 H2 H3
  refine (won_any _ _ l (y ++ [z]) W3 (HH.out.1.kept HN3.out.2) HN3.out.1).mono ?_
  rintro e W4 ⟨rfl, hg⟩
  have H4 := hid_mk (grown_trans HN3.out.2 hg)
  clear hg HN3
  go_wp2_with fail
  refine (count_any _ _ l y W4 (HH.out.1.kept H4.out) (HH.out.2.kept H4.out)).mono ?_
  rintro e W5 ⟨rfl, hg⟩
  have H5 := hid_mk (grown_trans H4.out hg)
  clear hg H4
  go_wp2_with (first
    | (at_builtin; refine wp_copyi (grown_refl W5 none) (HH.out.2.1.kept H5.out) HH.out.2.2.2 rfl _ _ rfl rfl rfl ?_; intro ca cc W6 H6)
    | (at_builtin; refine wp_appi H6.out.2 H6.out.1 z y.length rfl hyl rfl _ _ rfl rfl rfl ?_; intro da dc W7 H7))
  have HN7 : Hid (Nums W7 (.slice da (y.length + 1) dc) (y ++ [z]) ∧ w.grownBy W7 none) := hid_mk ⟨H7.out.1.nums HWz.out (by simp; omega), grown_trans H5.out H7.out.2⟩
  clear H5 H6 H7
  refine (count_any _ _ l (y ++ [z]) W7 (HH.out.1.kept HN7.out.2) HN7.out.1).mono ?_
  rintro e W8 ⟨rfl, hg⟩
  have H8 := hid_mk (grown_trans HN7.out.2 hg)
  clear hg HN7
  obtain ⟨hc1, hc2⟩ := cnt_more l y z
  have hcl : cnt l y ≤ 17592186044416 := Nat.le_trans (cnt_le l y) (Nat.le_trans (dd_len l) hl)
  have HWm := hid_mk (won_more l y z)
  have HWl := hid_mk (fun W (hg : w.grownBy W none) => won_any _ _ l l W (HH.out.1.kept hg) (HH.out.1.kept hg))
  have HWn := hid_mk (fun W (hg : w.grownBy W none) => won_any _ (.slice none 0 0) l [] W (HH.out.1.kept hg) ⟨IntsR.nil W, by simp, by simp⟩)
  have HE := hid_mk (won_all l)
  rw [won_none] at HWn
  generalize cnt l y = n at *
  generalize cnt l (y ++ [z]) = m at *
  generalize wonB l y = wa at *
  generalize wonB l (y ++ [z]) = wb at *
  generalize wonB l l = wl at *
  have hnm : (n : Int) ≤ m := by omega
  have hmn : (m : Int) ≤ n + 1 := by omega
  have hll : Hid ((l.length = 0 ∧ wl = false) ∨ (0 < l.length ∧ wl = true)) := hid_mk (by
    rw [HE.out]
    rcases Nat.eq_zero_or_pos l.length with h | h
    · exact .inl ⟨h, by simp [h]⟩
    · exact .inr ⟨h, by simp [h]⟩)
  clear HE hc1 hc2
  generalize l.length = L at *
  have HAB : Hid (wa = false ∨ wa = true ∧ wb = true) := hid_mk (by cases wa; exact .inl rfl; exact .inr ⟨rfl, HWm.out rfl⟩)
  clear HWm
  rcases HAB.out with rfl | ⟨rfl, rfl⟩
  · clear HAB
    go_wp2_with fail
    refine (HWl.out W8 H8.out).mono ?_
    rintro e W9 ⟨rfl, hg⟩
    have H9 := hid_mk (grown_trans H8.out hg)
    clear hg H8 HWl
    rcases hll.out with ⟨h0, rfl⟩ | ⟨h0, rfl⟩
    · subst h0
      clear hll
      go_wp2_with fail
      refine (HWn.out W9 H9.out).mono ?_
      rintro e W10 ⟨rfl, hg⟩
      have H10 := hid_mk (grown_trans H9.out hg)
      clear hg H9 HWn
      go_wp2_with (go_at_call 15; refine (knows_any _).mono ?_; rintro e w2 ⟨rfl, hg⟩; have HG := hid_mk hg; clear hg)
      go_ret
      exact ⟨rfl, grown_trans H10.out HG.out⟩
    · have h0' : (0 : Int) < (L : Int) := by omega
      clear hll
      go_wp2_with fail
      refine (HWn.out W9 H9.out).mono ?_
      rintro e W10 ⟨rfl, hg⟩
      have H10 := hid_mk (grown_trans H9.out hg)
      clear hg H9 HWn
      go_wp2_with (go_at_call 15; refine (knows_any _).mono ?_; rintro e w2 ⟨rfl, hg⟩; have HG := hid_mk hg; clear hg)
      go_ret
      exact ⟨rfl, grown_trans H10.out HG.out⟩
  · clear HAB
    go_wp2_with fail
    refine (HWl.out W8 H8.out).mono ?_
    rintro e W9 ⟨rfl, hg⟩
    have H9 := hid_mk (grown_trans H8.out hg)
    clear hg H8 HWl
    rcases hll.out with ⟨h0, rfl⟩ | ⟨h0, rfl⟩
    · subst h0
      clear hll
      go_wp2_with fail
      refine (HWn.out W9 H9.out).mono ?_
      rintro e W10 ⟨rfl, hg⟩
      have H10 := hid_mk (grown_trans H9.out hg)
      clear hg H9 HWn
      go_wp2_with (go_at_call 15; refine (knows_any _).mono ?_; rintro e w2 ⟨rfl, hg⟩; have HG := hid_mk hg; clear hg)
      go_ret
      exact ⟨rfl, grown_trans H10.out HG.out⟩
    · have h0' : (0 : Int) < (L : Int) := by omega
      clear hll
      go_wp2_with fail
      refine (HWn.out W9 H9.out).mono ?_
      rintro e W10 ⟨rfl, hg⟩
      have H10 := hid_mk (grown_trans H9.out hg)
      clear hg H9 HWn
      go_wp2_with (go_at_call 15; refine (knows_any _).mono ?_; rintro e w2 ⟨rfl, hg⟩; have HG := hid_mk hg; clear hg)
      go_ret
      exact ⟨rfl, grown_trans H10.out HG.out⟩
end Go.Proofs.Ytgplhgogjcgmeaa
