/- conf: Equal, changesTo, Beside. -/
import Derived.Test.YtcijjepleedecaaCfD
namespace Go.Proofs.Ytcijjepleedecaa.C
open Go.RowKit Go.Maps
set_option linter.unusedVariables false
set_option linter.unusedSimpArgs false
set_option maxRecDepth 100000

theorem eq_upto {l m : List Int} (hl : l.length = m.length) (h : ∀ (i : Nat) (h1 : i < l.length) (h2 : i < m.length), l[i] = m[i]) : l = m := List.ext_getElem hl fun i h1 h2 => h i h1 h2
set_option maxHeartbeats 1000000 in
theorem equal_any (v u : Value) (l m : List Int) (w : World) (hl : l.length ≤ 17592186044416) (h : IntsR w v l) (k : IntsR w u m) : Calls Try.prog 56 #[v, u] w fun e w' => e = .returned (.bool (decide (l = m))) ∧ w.grownBy w' none := by
  obtain ⟨a1, c1, rfl⟩ := h.len
  obtain ⟨a2, c2, rfl⟩ := k.len
  have HH := hid_mk (And.intro h k)
  clear h k
  by_cases hlm : l.length = m.length
  · have hb : ((l.length : Int) != m.length) = false := by simp [hlm]
    have HL := hid_mk hlm
    have HT := hid_mk (@eq_upto l m hlm)
    clear hlm
    go_enter Try.func56, Try.ntmps56
    go_wp2_with fail
    go_loopg [13] l.length (fun g iv W => ∃ k : Nat, k ≤ l.length ∧ g = l.length - k ∧ iv = .int .i64 k ∧ Hid (w.grownBy W none ∧ ∀ (i : Nat) (h1 : i < l.length) (h2 : i < m.length), i < k → l[i] = m[i]))
    case atStart => exact ⟨0, Nat.zero_le _, rfl, rfl, hid_mk ⟨grown_refl _ _, fun i _ _ h => by omega⟩⟩
    case round =>
      obtain ⟨k, hk, hgk, rfl, H⟩ := hrel
      rename World => W
      by_cases hlt : k < l.length
      · have hlt' : (k : Int) < l.length := by omega
        have hltm : k < m.length := by have := HL.out; omega
        have hltm' : (k : Int) < m.length := by omega
        obtain ⟨b, off, cap, e, hc⟩ := (HH.out.1.kept H.out.1).get k hlt
        injection e with e1 e2 e3
        subst e1
        clear e2 e3
        obtain ⟨b2, off2, cap2, e, hc2⟩ := (HH.out.2.kept H.out.1).get k hltm
        injection e with e1 e2 e3
        subst e1
        clear e2 e3
        by_cases hxy : l[k] = m[k]
        · have HX := hid_mk hxy
          have hne : (l[k] != m[k]) = false := by simp [hxy]
          clear hxy
          have HN := hid_mk (show ∀ (i : Nat) (h1 : i < l.length) (h2 : i < m.length), i < k + 1 → l[i] = m[i] from fun i h1 h2 h3 => by
            rcases Nat.lt_succ_iff_lt_or_eq.1 h3 with h | h
            · exact H.out.2 i h1 h2 h
            · subst h; exact HX.out)
          clear HX
          generalize l[k] = x at *
          generalize m[k] = y at *
          go_wp2
          go_quiet (fail)
          go_wp2
          go_roundg (l.length - (k + 1))
          case measure => omega
          case rel => exact ⟨k + 1, by omega, rfl, by go_num, hid_mk ⟨grown_trans H.out.1 (grown_drewN _ _ none), HN.out⟩⟩
        · have HX := hid_mk (show ¬ l = m from fun e => by subst e; exact hxy rfl)
          have hne : (l[k] != m[k]) = true := by simp [hxy]
          clear hxy
          generalize l[k] = x at *
          generalize m[k] = y at *
          go_wp2
          go_quiet (fail)
          go_wp2
          go_ret
          exact ⟨ret_bool (by simp [HX.out]), grown_trans H.out.1 (grown_drewN _ _ none)⟩
      · have hlt' : ¬ (k : Int) < l.length := by omega
        go_wp2
        go_ret
        exact ⟨ret_bool (by rw [eq_comm, decide_eq_true_iff]; exact HT.out fun i h1 h2 => H.out.2 i h1 h2 (by omega)), H.out.1⟩
  · have hb : ((l.length : Int) != m.length) = true := by simp; omega
    have HX := hid_mk (show ¬ l = m from fun e => hlm (by rw [e]))
    clear hlm
    go_enter Try.func56, Try.ntmps56
    go_wp2
    go_ret
    exact ⟨ret_bool (by simp [HX.out]), grown_refl _ _⟩
theorem changesTo_any (v u : Value) (a b : List Int) (id : Int) (w : World) (hl : a.length ≤ 17592186044416) (h : IntsR w v a) (k : IntsR w u b) : Calls Try.prog 59 #[v, .int .i64 id, u] w fun e w' => e = .returned (.bool (to1 a id b)) ∧ w.grownBy w' none := by
  obtain ⟨a1, c1, rfl⟩ := h.len
  obtain ⟨a2, c2, rfl⟩ := k.len
  have HH := hid_mk (And.intro h k)
  have HC := hid_mk (has_any _ a id w hl h)
  have HD := hid_mk (fun add W (hg : w.grownBy W none) => change_any _ a add id W hl (h.kept hg))
  have HT := hid_mk (show to1 a id b = (decide (chE a (!decide (id ∈ a)) id = 0) && decide (chL a (!decide (id ∈ a)) id = b)) from rfl)
  clear h k
  generalize decide (id ∈ a) = m at *
  go_enter Try.func59, Try.ntmps59
  go_wp2_with (go_at_call 74; refine HC.out.mono ?_; rintro e w1 ⟨rfl, hg⟩; have HG := hid_mk hg; clear hg)
  refine (HD.out (!m) w1 HG.out).mono ?_
  rintro e w2 ⟨a3, c3, rfl, ho3, hg3⟩
  have H3 := hid_mk (And.intro ho3.ints (grown_trans HG.out hg3))
  have HL := hid_mk (show (chL a (!m) id).length ≤ 17592186044416 from by
    unfold chL
    split
    · have := List.length_filter_le (mkP a (!m) id) up16
      unfold mk
      have e : up16.length = 16 := rfl
      omega
    · simp)
  clear ho3 hg3 HC HD
  generalize chL a (!m) id = M at *
  generalize hE : chE a (!m) id = E at *
  by_cases h0 : E = 0
  · subst h0
    clear hE
    go_wp2_with (go_at_call 56; refine (equal_any _ _ M b w2 HL.out H3.out.1 (HH.out.2.kept H3.out.2)).mono ?_; rintro e w3 ⟨rfl, hg⟩; have HG3 := hid_mk hg; clear hg)
    go_ret
    exact ⟨ret_bool (by rw [HT.out]; simp), grown_trans H3.out.2 HG3.out⟩
  · have h0' : (E == 0) = false := by simp [h0]
    clear hE
    go_wp2
    go_ret
    exact ⟨ret_bool (by rw [HT.out]; simp [h0]), H3.out.2⟩
theorem beside1_any (v u : Value) (a b : List Int) (i b1 b2 : Nat) (w : World) (hl : a.length ≤ 17592186044416) (h : IntsR w v a) (k : IntsR w u b) (h1 : BoxV w b1 v) (h2 : BoxV w b2 u) :
    Calls Try.prog 58 #[.int .i64 i, .pointer (some ⟨b1, 0, none⟩), .pointer (some ⟨b2, 0, none⟩)] w fun e w' => e = .returned (.bool (to1 a i b)) ∧ w.grownBy w' none := by
  have HC := hid_mk (changesTo_any v u a b i w hl h k)
  obtain ⟨a1, c1, rfl⟩ := h.len
  obtain ⟨a2, c2, rfl⟩ := k.len
  unfold BoxV at h1 h2
  clear h k
  go_enter Try.func58, Try.ntmps58
  go_wp2_with (go_at_call 59; refine HC.out.mono ?_; rintro e w1 ⟨rfl, hg⟩; have HG := hid_mk hg; clear hg)
  go_ret
  exact ⟨rfl, HG.out⟩
theorem fst_any {a b : List Int} {k : Nat} (h : IsFst (fun i => to1 a (i : Int) b) 16 k) : decide ((k : Int) < 16) = up16.any fun id => to1 a id b := by
  rw [Bool.eq_iff_iff, decide_eq_true_iff, List.any_eq_true]
  constructor
  · intro hk
    exact ⟨k, mem_up16.2 ⟨by omega, hk⟩, h.2.2 (by omega)⟩
  · rintro ⟨id, hid, ht⟩
    obtain ⟨h1, h2⟩ := mem_up16.1 hid
    obtain ⟨j, rfl⟩ : ∃ j : Nat, id = j := ⟨id.toNat, by omega⟩
    rcases Nat.lt_or_ge k 16 with h3 | h3
    · omega
    · have h4 : to1 a (j : Int) b = false := h.2.1 j (by omega)
      rw [h4] at ht
      cases ht
set_option maxHeartbeats 1000000 in
theorem beside_any (v u : Value) (a b : List Int) (w : World) (hl : a.length ≤ 17592186044416) (hl2 : b.length ≤ 17592186044416) (h : IntsR w v a) (k : IntsR w u b) : Calls Try.prog 38 #[v, u] w fun e w' => e = .returned (.bool (besB a b)) ∧ w.grownBy w' none := by
  obtain ⟨w1, hw1⟩ : ∃ w1, w1 = (w.alloc (.cells #[v] 43)).alloc (.cells #[u] 43) := ⟨_, rfl⟩
  have hg0 : w.grownBy w1 none := by rw [hw1]; exact ga (World.grownBy_alloc _ _ none) _
  have hb1 : BoxV w1 w.heap.size v := by rw [hw1]; exact (box_new w v 43).kept (World.grownBy_alloc _ _ none)
  have hb2 : BoxV w1 (w.heap.size + 1) u := by
    have := box_new (w.alloc (.cells #[v] 43)) u 43
    rw [hw1]; simpa using this
  have HR1 := hid_mk (right_any v a w1 hl (h.kept hg0))
  have HR2 := hid_mk (fun W (hg : w1.grownBy W none) => right_any u b W hl2 (k.kept (grown_trans hg0 hg)))
  have HE := hid_mk (fun W (hg : w1.grownBy W none) => equal_any v u a b W hl (h.kept (grown_trans hg0 hg)) (k.kept (grown_trans hg0 hg)))
  have HC := hid_mk (fun W (hg : w1.grownBy W none) => first_gen 58 ent34 #[.pointer (some ⟨w.heap.size, 0, none⟩), .pointer (some ⟨w.heap.size + 1, 0, none⟩)] 16 (by omega) (fun i => to1 a (i : Int) b) W (fun i hi W' hg' => beside1_any v u a b i w.heap.size (w.heap.size + 1) W' hl (h.kept (grown_trans hg0 (grown_trans hg hg'))) (k.kept (grown_trans hg0 (grown_trans hg hg'))) (hb1.kept (grown_trans hg hg')) (hb2.kept (grown_trans hg hg'))))
  have HB := hid_mk (show besB a b = (rtB a && rtB b && (decide (a = b) || up16.any fun id => to1 a id b)) from rfl)
  have HG0 := hid_mk (And.intro hg0 (And.intro hb1 hb2))
  rw [hw1] at HR1
  obtain ⟨a1, c1, rfl⟩ := h.len
  obtain ⟨a2, c2, rfl⟩ := k.len
  have HW := hid_mk hw1
  have hq1 : (w.alloc (.cells #[.slice a1 a.length c1] 43)).alloc (.cells #[.slice a2 b.length c2] 43) = w1 := hw1.symm
  clear h k hg0 hb1 hb2 hw1
  generalize rtB a = ra at *
  generalize rtB b = rb at *
  generalize decide (a = b) = eq at *
  rw [hq1] at HR1
  have cx1 : w1.cell? ⟨w.heap.size, 0, none⟩ = some (.slice a1 a.length c1) := HG0.out.2.1
  have cx2 : w1.cell? ⟨w.heap.size + 1, 0, none⟩ = some (.slice a2 b.length c2) := HG0.out.2.2
  cases ra
  · clear HR2 HE HC
    go_enter Try.func38, Try.ntmps38
    go_wp2_with fail
    refine HR1.out.mono ?_
    rintro e w2 ⟨rfl, hg⟩
    have HG := hid_mk (grown_trans HG0.out.1 hg)
    clear hg hq1
    go_wp2
    go_ret
    exact ⟨ret_bool (by rw [HB.out]; rfl), HG.out⟩
  · go_enter Try.func38, Try.ntmps38
    go_wp2_with fail
    refine HR1.out.mono ?_
    rintro e w2 ⟨rfl, hg⟩
    have HG := hid_mk hg
    clear cx1 cx2
    have cx1 : w2.cell? ⟨w.heap.size, 0, none⟩ = some (.slice a1 a.length c1) := HG0.out.2.1.kept hg
    have cx2 : w2.cell? ⟨w.heap.size + 1, 0, none⟩ = some (.slice a2 b.length c2) := HG0.out.2.2.kept hg
    clear hg hq1 HR1
    cases rb
    · clear HE HC
      go_wp2_with (go_at_call 37; refine (HR2.out w2 HG.out).mono ?_; rintro e w3 ⟨rfl, hg⟩; have HG3 := hid_mk hg; clear hg)
      go_ret
      exact ⟨ret_bool (by rw [HB.out]; rfl), grown_trans HG0.out.1 (grown_trans HG.out HG3.out)⟩
    · go_wp2_with fail
      refine (HR2.out w2 HG.out).mono ?_
      rintro e w3 ⟨rfl, hg⟩
      have HG3 := hid_mk (grown_trans HG.out hg)
      clear cx1 cx2
      have cx1 : w3.cell? ⟨w.heap.size, 0, none⟩ = some (.slice a1 a.length c1) := HG0.out.2.1.kept (grown_trans HG.out hg)
      have cx2 : w3.cell? ⟨w.heap.size + 1, 0, none⟩ = some (.slice a2 b.length c2) := HG0.out.2.2.kept (grown_trans HG.out hg)
      clear hg HG HR2
      go_wp2_with fail
      refine (HE.out w3 HG3.out).mono ?_
      rintro e w4 ⟨rfl, hg⟩
      have HG4 := hid_mk (grown_trans HG3.out hg)
      clear hg HE cx1 cx2
      cases eq
      · go_wp2_with fail
        refine (HC.out w4 HG4.out).mono ?_
        rintro e w5 ⟨k, hk, rfl, hg⟩
        have HG5 := hid_mk (grown_trans HG4.out hg)
        have HK := hid_mk (fst_any hk)
        have hk16 := hk.1
        clear hg hk HC
        go_wp2
        go_ret
        exact ⟨ret_bool (by rw [HB.out, ← HK.out]; simp), grown_trans HG0.out.1 HG5.out⟩
      · clear HC
        go_wp2
        go_ret
        exact ⟨ret_bool (by rw [HB.out]; rfl), grown_trans HG0.out.1 HG4.out⟩
end Go.Proofs.Ytcijjepleedecaa.C
