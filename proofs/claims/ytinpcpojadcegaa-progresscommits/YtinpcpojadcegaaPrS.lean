/- ProgressSure: the walk. -/
import Derived.Test.YtinpcpojadcegaaPrK
namespace Go.Proofs.Ytinpcpojadcegaa.W
open Go.RowKit Go.Maps
set_option linter.unusedVariables false
set_option linter.unusedSimpArgs false
set_option maxRecDepth 100000
attribute [local go_sem] Oper.semAt_some

theorem many_mono (l : List Int) {u v : Int} (h : u ≤ v) : C.many l v ≤ C.many l u := by
  unfold C.many
  induction l with
  | nil => simp
  | cons x r ih =>
    simp only [List.filter_cons]
    by_cases h1 : v ≤ x
    · rw [if_pos (by simpa using h1), if_pos (by simp; omega)]; simp; exact ih
    · rw [if_neg (by simpa using h1)]
      split
      · simp; omega
      · exact ih
theorem many_pad {n : Nat} {y : List Int} {N : Int} (h : 1 ≤ N) : C.many (C.pad n y) N = C.many (y.take n) N := by
  unfold C.many C.pad
  rw [List.filter_append, List.length_append]
  have : (List.replicate (n - y.length) (0 : Int)).filter (fun x => decide (N ≤ x)) = [] := List.filter_eq_nil_iff.2 fun x hx => by
    have := (List.mem_replicate.1 hx).2
    simp
    omega
  rw [this]
  simp
/-- What a quorum reach is reached by a quorum. -/
theorem sure_many {n : Nat} {y : List Int} {N : Int} (h1 : 1 ≤ N) (h2 : N ≤ C.nthP n y) : n / 2 + 1 ≤ C.many (y.take n) N := by
  rw [← many_pad h1]
  unfold C.nthP at h2
  split at h2
  · omega
  · have hl := C.pad_len n y
    have h3 := (C.many_good (C.pad n y) (by omega)).1
    rw [hl] at h3
    exact Nat.le_trans h3 (many_mono _ h2)
/-- What is newly committed. -/
theorem commitZ_new {b t : Int} {es : List Ent} {reach commit term N : Int} (hN : N = commitZ b t es reach commit term) (h : N ≠ commit) :
    rightV b t es = true ∧ commit < N ∧ N ≤ reach ∧ b < N ∧ N ≤ b + es.length ∧ termA b t es N = term := by
  cases hr : rightV b t es with
  | false => rw [commitZ_bad hr] at hN; exact absurd hN h
  | true =>
    by_cases hc : reach ≤ commit
    · rw [commitZ_low hc] at hN; exact absurd hN h
    · rw [commitZ_go hc hr] at hN
      rcases comG_spec (b := b) (es := es) (commit := commit) (term := term) (min reach (b + es.length) - b).toNat with h0 | ⟨h1, h2, h3, x, hx, ht⟩
      · rw [h0] at hN; exact absurd hN h
      · rw [← hN] at h1 h2 h3 hx
        exact ⟨rfl, h1, by omega, h3, by omega, by rw [termA_at (by omega) hx]; exact ht⟩
set_option maxHeartbeats 8000000 in
theorem sure_any (b t : Int) (lv : Value) (es : List Ent) (sv mv : Value) (l y : List Int) (commit term : Int) (w : World) (h : EntsR w lv es) (hn : es.length * 48 ≤ 140737488355328) (hb : I64 b) (hs : C.IntsR w sv l) (hm : C.IntsR w mv y) (hl : l.length < 17592186044416) (hly : y.length < 17592186044416) (hc : I64 commit) :
    Calls Try.prog 6 #[viewV b t lv, sv, mv, .int .i64 commit, .int .i64 term] w fun e w' => e = .returned (.bool true) ∧ w.grownBy w' none := by
  obtain ⟨a, c, rfl⟩ := h.len
  obtain ⟨a1, c1, rfl⟩ := hs.len
  obtain ⟨a2, c2, rfl⟩ := hm.len
  have HE := hid_mk (And.intro h (And.intro hb (And.intro hs (And.intro hm hc))))
  clear h hb hs hm hc
  have hV : viewV b t (.slice a es.length c) = .agg #[.int .i64 b, .int .i64 t, .slice a es.length c] := rfl
  have HV := hid_mk hV
  rw [hV]
  clear hV
  have HA := hid_mk (And.intro (RB.new w b t (.slice a es.length c)) (World.grownBy_alloc w (.cells #[.int .i64 b, .int .i64 t, .slice a es.length c] 24) none))
  go_enter Try.func6, Try.ntmps6
  go_upto_region 1 with fail
  generalize w.alloc (.cells #[.int .i64 b, .int .i64 t, .slice a es.length c] 24) = w1 at *
  obtain ⟨v0, v1, v2⟩ := HA.out.1.cells
  go_wp2_with fail
  rw [← HV.out]
  refine (view_any b t _ es w1 (HE.out.1.kept HA.out.2) hn).mono ?_
  rintro e w2 ⟨lv', ps, rfl, heo, hmap⟩
  rw [HV.out]
  obtain ⟨va, vc, hv⟩ := row_shape heo.row
  subst hv
  have hpl : ps.length = es.length := by have := congrArg List.length hmap; simpa using this
  have hrd := heo.reads
  rw [hmap, hpl] at hrd
  rw [hpl]
  have H2 := hid_mk (show EntsR w2 (.slice va es.length vc) es ∧ RB w2 w.heap.size b t (.slice a es.length c) ∧ w.grownBy w2 none from ⟨hrd, HA.out.1.kept heo.gr (by simp), grown_trans HA.out.2 heo.gr⟩)
  clear heo hmap hpl hrd v0 v1 v2 HA
  have HC := hid_mk (commit_any b t (.slice va es.length vc) es (.slice a1 l.length c1) (.slice a2 y.length c2) l y commit term w2 H2.out.1 (by omega) HE.out.2.1 (HE.out.2.2.1.kept H2.out.2.2) (HE.out.2.2.2.1.kept H2.out.2.2) (by omega) HE.out.2.2.2.2)
  have hVn : viewV b t (.slice va es.length vc) = .agg #[.int .i64 b, .int .i64 t, .slice va es.length vc] := rfl
  rw [hVn] at HC ⊢
  clear hVn
  obtain ⟨N, hN⟩ : ∃ N, N = commitZ b t es (C.nthP l.length y) commit term := ⟨_, rfl⟩
  rw [← hN] at HC
  go_wp2_with fail
  refine HC.out.mono ?_
  rintro e w3 ⟨rfl, hg⟩
  have H3 := hid_mk (show RB w3 w.heap.size b t (.slice a es.length c) ∧ w.grownBy w3 none from ⟨H2.out.2.1.kept hg (by simp), grown_trans H2.out.2.2 hg⟩)
  clear hg HC H2
  by_cases hNc : N = commit
  · have hNc' : (N == commit) = true := by simpa using hNc
    clear hN
    go_wp2_with fail
    refine (knows_any w3).mono ?_
    rintro e wy ⟨rfl, hg⟩
    have GY := hid_mk (grown_trans H3.out.2 hg)
    clear hg
    go_wp2
    go_ret
    exact ⟨rfl, GY.out⟩
  · have hNc' : (N == commit) = false := by simpa using hNc
    obtain ⟨hr, k1, k2, k3, k4, k5⟩ := commitZ_new hN hNc
    obtain ⟨hb0, hb1, _, _, hn4, hgo⟩ := rightV_spec hr
    have HM := hid_mk (sure_many (show 1 ≤ N by omega) k2)
    have HT := hid_mk (show termR b t es N = (term, 0) by rw [termR_in hr (by omega) k4, k5])
    have HMT := hid_mk (fun (j : Nat) (hj : j < (y.take l.length).length) => @C.many_take (y.take l.length) N j hj)
    have HML := hid_mk (fun (j : Nat) => Nat.le_trans (C.many_le ((y.take l.length).take j) N) (by rw [List.length_take]; exact Nat.min_le_left _ _))
    clear hN hgo k5 hr
    have hPl : (y.take l.length).length = min l.length y.length := List.length_take
    have HPA := hid_mk (fun (j : Nat) (hj : j < (y.take l.length).length) (hjy : j < y.length) => (show (y.take l.length)[j] = y[j] from by simp))
    have HPT := hid_mk (show C.many ((y.take l.length).take (y.take l.length).length) N = C.many (y.take l.length) N from by rw [List.take_length])
    generalize y.take l.length = P at *
    clear k2 hNc hNc'
    go_wp2_with fail
    go_loopw [12, 13] (fun rv iv W => ∃ (k i : Nat), rv = .int .i64 k ∧ iv = .int .i64 i ∧ W = w3 ∧ i ≤ P.length ∧ k ≤ i ∧ Hid (k = C.many (P.take i) N)) (fun _ iv _ => P.length - (intOf iv).toNat)
    case atStart => exact ⟨0, 0, rfl, rfl, rfl, Nat.zero_le _, Nat.le_refl _, hid_mk (by simp [C.many])⟩
    case round =>
      obtain ⟨k, i, rfl, rfl, hW, hi, hki, HK⟩ := hrel
      rw [hW]
      clear hW
      by_cases hlt : i < P.length
      · have hil : (i : Int) < l.length := by omega
        have hiy : (i : Int) < y.length := by omega
        have HS := hid_mk (HMT.out i hlt)
        rw [HPA.out i hlt (by omega)] at HS
        obtain ⟨mb, off, cap, hae, hcs⟩ := (HE.out.2.2.2.1.kept H3.out.2).get i (by omega)
        injection hae with e1 e2 e3
        subst e1
        clear e2 e3
        generalize y[i] = z at *
        have hkb := HML.out i
        by_cases hz : N ≤ z
        · rw [if_pos hz] at HS
          go_wp2_with fail
          go_roundw
          case rel => exact ⟨k + 1, i + 1, by first | rfl | (congr 1; done) | (congr 1; omega), by first | rfl | (congr 1; done) | (congr 1; omega), by trivial, by omega, by omega, hid_mk (by rw [HS.out, HK.out])⟩
          case measure => simp [intOf]; omega
        · rw [if_neg hz] at HS
          go_wp2_with fail
          go_roundw
          case rel => exact ⟨k, i + 1, rfl, by first | rfl | (congr 1; done) | (congr 1; omega), by trivial, by omega, by omega, hid_mk (by rw [HS.out, HK.out]; rfl)⟩
          case measure => simp [intOf]; omega
      · obtain rfl : i = P.length := by omega
        have hq : l.length / 2 + 1 ≤ k := by rw [HK.out, HPT.out]; exact HM.out
        have hq' : ¬ (k : Int) < ((l.length / 2 + 1 : Nat) : Int) := by omega
        have hkc : ¬ N < commit := by omega
        clear HK HM HMT HML HPA HPT
        by_cases hil : (P.length : Int) < l.length
        · have hiy : ¬ (P.length : Int) < y.length := by omega
          go_wp2_with fail
          refine (C.quorum_any a1 l.length c1 w3 (by omega)).mono ?_
          rintro e w5 ⟨rfl, hw⟩
          rw [hw]
          clear hw
          obtain ⟨v0, v1, v2⟩ := H3.out.1.cells
          go_wp2_with fail
          rw [← HV.out]
          refine (rTermOf_any b t _ es N w3 (HE.out.1.kept H3.out.2) (by omega)).mono ?_
          rintro e w4 ⟨rfl, hg⟩
          rw [HV.out, HT.out]
          simp only
          have H4 := hid_mk (show RB w4 w.heap.size b t (.slice a es.length c) ∧ w.grownBy w4 none from ⟨H3.out.1.kept hg (by simp), grown_trans H3.out.2 hg⟩)
          clear hg v0 v1 v2
          obtain ⟨v0, v1, v2⟩ := H4.out.1.cells
          go_wp2_with fail
          refine (knows_any w4).mono ?_
          rintro e wy ⟨rfl, hg⟩
          have GY := hid_mk (grown_trans H4.out.2 hg)
          clear hg
          go_wp2
          go_ret
          exact ⟨rfl, GY.out⟩
        · skip
          go_wp2_with fail
          refine (C.quorum_any a1 l.length c1 w3 (by omega)).mono ?_
          rintro e w5 ⟨rfl, hw⟩
          rw [hw]
          clear hw
          obtain ⟨v0, v1, v2⟩ := H3.out.1.cells
          go_wp2_with fail
          rw [← HV.out]
          refine (rTermOf_any b t _ es N w3 (HE.out.1.kept H3.out.2) (by omega)).mono ?_
          rintro e w4 ⟨rfl, hg⟩
          rw [HV.out, HT.out]
          simp only
          have H4 := hid_mk (show RB w4 w.heap.size b t (.slice a es.length c) ∧ w.grownBy w4 none from ⟨H3.out.1.kept hg (by simp), grown_trans H3.out.2 hg⟩)
          clear hg v0 v1 v2
          obtain ⟨v0, v1, v2⟩ := H4.out.1.cells
          go_wp2_with fail
          refine (knows_any w4).mono ?_
          rintro e wy ⟨rfl, hg⟩
          have GY := hid_mk (grown_trans H4.out.2 hg)
          clear hg
          go_wp2
          go_ret
          exact ⟨rfl, GY.out⟩
end Go.Proofs.Ytinpcpojadcegaa.W
