/- watch: the document's Agree. -/
import Derived.Test.YtcijjepleedecaaWaN1
namespace Go.Proofs.Ytcijjepleedecaa.W
open Go.RowKit Go.Maps
set_option linter.unusedVariables false
set_option linter.unusedSimpArgs false
set_option maxRecDepth 100000
attribute [local go_sem] Oper.semAt_some


theorem firstZ_cap {m1 m2 : Int} : ∀ {l : List (Ent × Ent)} {i : Int}, (l = [] ∨ i + l.length - 1 ≤ m2) → firstZ (min m1 m2) l i = firstZ m1 l i
  | [], _, _ => rfl
  | p :: l, i, h => by
    have h' : i + (l.length + 1 : Nat) - 1 ≤ m2 := by
      rcases h with h | h
      · cases h
      · simpa using h
    rw [firstZ, firstZ]
    by_cases hm : m1 < i
    · rw [if_pos hm, if_pos (by omega)]
    · rw [if_neg hm, if_neg (by push_cast at h'; omega), firstZ_cap (l := l) (i := i + 1) (.inr (by push_cast at h'; omega))]
theorem tops {b1 : Int} {e1 : List Ent} {b2 : Int} {e2 : List Ent} : min (b1 + e1.length) (b2 + e2.length) ≤ baseC b1 b2 + (pairs b1 e1 b2 e2).length ∧ (pairs b1 e1 b2 e2 = [] ∨ baseC b1 b2 + 1 + (pairs b1 e1 b2 e2).length - 1 ≤ min (b1 + e1.length) (b2 + e2.length)) := by
  have hl : (pairs b1 e1 b2 e2).length = min (e1.length - (baseC b1 b2 - b1).toNat) (e2.length - (baseC b1 b2 - b2).toNat) := by
    unfold pairs
    rw [List.length_zip, List.length_drop, List.length_drop]
  have h1 : b1 ≤ baseC b1 b2 := by unfold baseC; omega
  have h2 : b2 ≤ baseC b1 b2 := by unfold baseC; omega
  refine ⟨by omega, ?_⟩
  rcases Nat.eq_zero_or_pos (pairs b1 e1 b2 e2).length with h0 | h0
  · exact .inl (List.length_eq_zero_iff.1 h0)
  · right; omega

set_option maxHeartbeats 4000000 in
theorem ragree_any (s s' : Sn) (v1 v2 : Value) (w : World) (h1 : EntsR w v1 s.es) (h2 : EntsR w v2 s'.es) (l1 : s.es.length ≤ 10000000000000) (l2 : s'.es.length ≤ 10000000000000) :
    Calls Try.prog 16 #[seenV s v1, seenV s' v2] w fun e w' => e = .returned (.int .i64 (s.agree s')) ∧ w.grownBy w' none := by
  have HE := hid_mk (And.intro h1 h2)
  have HW1 : ∀ W, w.grownBy W none → Calls Try.prog 30 #[viewV s.b s.t v1] W fun e w' => e = .returned (viewV (whB s.b s.t s.es) (whT s.b s.t s.es) (whV s.b s.t s.es v1)) ∧ W.grownBy w' none := fun W hW => whole_any s.b s.t _ s.es W (h1.kept hW) l1
  have HW2 : ∀ W, w.grownBy W none → Calls Try.prog 30 #[viewV s'.b s'.t v2] W fun e w' => e = .returned (viewV (whB s'.b s'.t s'.es) (whT s'.b s'.t s'.es) (whV s'.b s'.t s'.es v2)) ∧ W.grownBy w' none := fun W hW => whole_any s'.b s'.t _ s'.es W (h2.kept hW) l2
  have hr1 := wh_right s.b s.t s.es
  have hr2 := wh_right s'.b s'.t s'.es
  have hx1 := h1.wh (b := s.b) (t := s.t)
  have hx2 := h2.wh (b := s'.b) (t := s'.t)
  have HV : Hid (viewV s.b s.t v1 = .agg #[.int .i64 s.b, .int .i64 s.t, v1] ∧ viewV s'.b s'.t v2 = .agg #[.int .i64 s'.b, .int .i64 s'.t, v2]) := hid_mk ⟨rfl, rfl⟩
  have HSV : Hid (∀ (s : Sn) lv, seenV s lv = .agg #[.int .i64 s.id, .int .i64 s.term, .int .i64 s.com, .bool s.lead, .int .i64 s.b, .int .i64 s.t, lv]) := hid_mk fun _ _ => rfl
  unfold Sn.agree agreeZ
  generalize whB s.b s.t s.es = B1 at *
  generalize whT s.b s.t s.es = T1 at *
  generalize whE s.b s.t s.es = E1 at *
  generalize whV s.b s.t s.es v1 = X1 at *
  generalize whB s'.b s'.t s'.es = B2 at *
  generalize whT s'.b s'.t s'.es = T2 at *
  generalize whE s'.b s'.t s'.es = E2 at *
  generalize whV s'.b s'.t s'.es v2 = X2 at *
  obtain ⟨xa1, xc1, rfl⟩ := hx1.len
  obtain ⟨xa2, xc2, rfl⟩ := hx2.len
  obtain ⟨p1, p2, p3, p4, p5, p6⟩ := rightV_spec hr1
  obtain ⟨q1, q2, q3, q4, q5, q6⟩ := rightV_spec hr2
  obtain ⟨n1, hn1⟩ : ∃ n, n = E1.length := ⟨_, rfl⟩
  obtain ⟨n2, hn2⟩ : ∃ n, n = E2.length := ⟨_, rfl⟩
  rw [← hn1] at HW1 hx1
  rw [← hn2] at HW2 hx2
  have HE1 := hid_mk (show EntsR w (.slice xa1 n1 xc1) E1 ∧ E1.length ≤ 4096 ∧ (0 ≤ B1 ∧ B1 ≤ 549755813888) from ⟨hx1, p5, ⟨p1, p2⟩⟩)
  have HE2 := hid_mk (show EntsR w (.slice xa2 n2 xc2) E2 ∧ E2.length ≤ 4096 ∧ (0 ≤ B2 ∧ B2 ≤ 549755813888) from ⟨hx2, q5, q1, q2⟩)
  have HV1 : Hid (viewV B1 T1 (.slice xa1 n1 xc1) = .agg #[.int .i64 B1, .int .i64 T1, .slice xa1 n1 xc1]) := hid_mk rfl
  have HV2 : Hid (viewV B2 T2 (.slice xa2 n2 xc2) = .agg #[.int .i64 B2, .int .i64 T2, .slice xa2 n2 xc2]) := hid_mk rfl
  have HA := hid_mk (SB.two w 32 s s' v1 v2)
  obtain ⟨M1, hM1⟩ : ∃ m, m = min s.com s'.com := ⟨_, rfl⟩
  obtain ⟨M2, hM2⟩ : ∃ m, m = min (B1 + (n1 : Int)) (B2 + (n2 : Int)) := ⟨_, rfl⟩
  obtain ⟨M3, hM3⟩ : ∃ m, m = min M1 M2 := ⟨_, rfl⟩
  have hm1 : (if s'.com < s.com then s'.com else s.com) = M1 := by rw [hM1]; split <;> omega
  have hm2 : (if B2 + (n2 : Int) < B1 + (n1 : Int) then B2 + (n2 : Int) else B1 + (n1 : Int)) = M2 := by rw [hM2]; split <;> omega
  have hm3 : (if M2 < M1 then M2 else M1) = M3 := by rw [hM3]; split <;> omega
  have htp := tops (b1 := B1) (e1 := E1) (b2 := B2) (e2 := E2)
  rw [← hn1, ← hn2, ← hM2] at htp
  have HT := hid_mk (show M3 ≤ baseC B1 B2 + (pairs B1 E1 B2 E2).length ∧ firstZ M3 (pairs B1 E1 B2 E2) (baseC B1 B2 + 1) = firstZ (min s.com s'.com) (pairs B1 E1 B2 E2) (baseC B1 B2 + 1) from ⟨by omega, by rw [hM3, ← hM1]; exact firstZ_cap htp.2⟩)
  have HMS := hid_mk (And.intro hm1 (And.intro hm2 hm3))
  have hnb1 : (n1 : Int) ≤ 4096 := by omega
  have hnb2 : (n2 : Int) ≤ 4096 := by omega
  clear hx1 hx2 hn1 hn2 p3 p4 p5 p6 q3 q4 q5 q6 hr1 hr2 l1 l2 h1 h2 htp hM1 hM2 hM3 hm1 hm2 hm3
  rw [HSV.out, HSV.out]
  go_enter Try.func16, Try.ntmps16
  go_upto_region 1 with fail
  generalize (w.alloc (.cells #[.int .i64 s.id, .int .i64 s.term, .int .i64 s.com, .bool s.lead, .int .i64 s.b, .int .i64 s.t, v1] 32)).alloc (.cells #[.int .i64 s'.id, .int .i64 s'.term, .int .i64 s'.com, .bool s'.lead, .int .i64 s'.b, .int .i64 s'.t, v2] 32) = w1 at *
  obtain ⟨a0, a1, a2, a3, a4, a5, a6⟩ := HA.out.1.cells
  go_wp2_with fail
  clear a0 a1 a2 a3 a4 a5 a6
  rw [← HV.out.1]
  refine (HW1 w1 HA.out.2.2).mono ?_
  rintro e w2 ⟨rfl, hg⟩
  have H3 := hid_mk (And.intro (RB.new w2 B1 T1 (.slice xa1 n1 xc1)) (show w1.grownBy (w2.alloc (.cells #[.int .i64 B1, .int .i64 T1, .slice xa1 n1 xc1] 30)) none from grown_trans hg (World.grownBy_alloc w2 _ none)))
  clear hg HW1
  rw [HV1.out, HV.out.1]
  go_upto_region 2 with fail
  generalize w2.alloc (.cells #[.int .i64 B1, .int .i64 T1, .slice xa1 n1 xc1] 30) = w3 at *
  obtain ⟨p, hp⟩ : ∃ p, p = w2.heap.size := ⟨_, rfl⟩
  rw [← hp] at H3 ⊢
  clear hp
  obtain ⟨a0, a1, a2, a3, a4, a5, a6⟩ := (HA.out.2.1.kept H3.out.2 (by simp)).cells
  go_wp2_with fail
  clear a0 a1 a2 a3 a4 a5 a6
  rw [← HV.out.2]
  refine (HW2 w3 (grown_trans HA.out.2.2 H3.out.2)).mono ?_
  rintro e w4 ⟨rfl, hg⟩
  have gal := World.grownBy_alloc w4 (.cells #[.int .i64 B2, .int .i64 T2, .slice xa2 n2 xc2] 30) none
  have H5 := hid_mk (And.intro (RB.new w4 B2 T2 (.slice xa2 n2 xc2)) (And.intro (H3.out.1.kept (grown_trans hg gal) (row := none) (by simp)) (show w1.grownBy (w4.alloc (.cells #[.int .i64 B2, .int .i64 T2, .slice xa2 n2 xc2] 30)) none from grown_trans H3.out.2 (grown_trans hg gal))))
  clear hg gal HW2 H3
  rw [HV2.out, HV.out.2]
  go_upto_region 3 with fail
  generalize w4.alloc (.cells #[.int .i64 B2, .int .i64 T2, .slice xa2 n2 xc2] 30) = w5 at *
  obtain ⟨q, hq⟩ : ∃ q, q = w4.heap.size := ⟨_, rfl⟩
  rw [← hq] at H5 ⊢
  clear hq
  obtain ⟨-, -, a2, -, -, -, -⟩ := (HA.out.1.kept H5.out.2.2 (by simp)).cells
  obtain ⟨-, -, d2, -, -, -, -⟩ := (HA.out.2.1.kept H5.out.2.2 (by simp)).cells
  obtain ⟨u0, u1, u2⟩ := H5.out.2.1.cells
  obtain ⟨y0, y1, y2⟩ := H5.out.1.cells
  have hm1 := HMS.out.1
  have hm2 := HMS.out.2.1
  have hm3 := HMS.out.2.2
  go_wp2_with fail
  clear a2 d2 u0 u1 u2 y0 y1 y2 hm1 hm2 hm3
  rw [← HV1.out, ← HV2.out]
  have g5 := grown_trans HA.out.2.2 H5.out.2.2
  refine (rdiffer_any B1 T1 _ E1 B2 T2 _ E2 M3 w5 (HE1.out.1.kept g5) (HE2.out.1.kept g5) HE1.out.2.1 HE2.out.2.1 HE1.out.2.2 HE2.out.2.2 HT.out.1).mono ?_
  rintro e w6 ⟨rfl, hg⟩
  rw [HT.out.2]
  have HG := hid_mk (grown_trans g5 hg)
  clear hg g5
  go_wp2_with fail
  go_ret
  exact ⟨rfl, HG.out⟩
end Go.Proofs.Ytcijjepleedecaa.W
