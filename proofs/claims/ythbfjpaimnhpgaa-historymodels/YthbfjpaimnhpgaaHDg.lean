/- history: Get of the document's model; the law's lists. -/
import Derived.Test.YthbfjpaimnhpgaaHDr
namespace Go.Proofs.Ythbfjpaimnhpgaa
open Go.RowKit Go.Maps
set_option linter.unusedVariables false
set_option linter.unusedSimpArgs false
set_option maxRecDepth 100000

theorem dget_no {w : World} {B b : Nat} {vl : Value} {R : List RV} {s : Nat} (h : IsD w B b vl R s) (fr mo : Int) (hf : hasM ⟨s, R.map (·.1)⟩ fr = false) :
    Calls Try.prog 15 #[.pointer (some ⟨b, 0, none⟩), .int .i64 fr, .int .i64 mo] w fun e w' => e = .returned (.tuple #[.slice none 0 0, .bool false]) ∧ w.grownBy w' none := by
  obtain ⟨c0, c1, cf⟩ := h.cells
  have HN := hid_mk (dnext_any h)
  have hf' : ¬ ((s : Int) ≤ fr ∧ fr ≤ ((s + R.length : Nat) : Int)) := by
    intro e
    have : hasM ⟨s, R.map (·.1)⟩ fr = true := by simp [hasM, Mo.next]; omega
    rw [hf] at this; cases this
  clear h hf
  generalize s + R.length = n at *
  by_cases h1 : fr < s
  · clear hf'
    go_enter Try.func15, Try.ntmps15
    go_wp2_with fail
    refine bodyPost_ret (results_tmp2 rfl _ _ _) rfl ?_
    exact ⟨rfl, grown_refl _ _⟩
  · have h2 : (n : Int) < fr := by omega
    clear hf'
    go_enter Try.func15, Try.ntmps15
    go_wp2_with (go_at_call 19; refine HN.out.mono ?_; rintro e w' ⟨rfl, m, rfl⟩)
    refine bodyPost_ret (results_tmp2 rfl _ _ _) rfl ?_
    exact ⟨rfl, grown_drewN w m none⟩
set_option maxHeartbeats 4000000 in
theorem dget_any {w : World} {B b : Nat} {vl : Value} {R : List RV} {s : Nat} (h : IsD w B b vl R s) (hBw : B ≤ w.heap.size) (fr mo : Int) (hf : hasM ⟨s, R.map (·.1)⟩ fr = true) :
    Calls Try.prog 15 #[.pointer (some ⟨b, 0, none⟩), .int .i64 fr, .int .i64 mo] w fun e w' => ∃ v', e = .returned (.tuple #[v', .bool true]) ∧ OwnRec w' B v' (toldR R s fr mo) ∧ (∀ k, v'.ownBlock = some k → w.heap.size ≤ k) ∧ w.grownBy w' none := by
  have hf' : (s : Int) ≤ fr ∧ fr ≤ ((s + R.length : Nat) : Int) := by simpa [hasM, Mo.next] using hf
  have hfit := h.fit
  obtain ⟨g, hg⟩ : ∃ g, g = fr.toNat - s := ⟨_, rfl⟩
  have hfr : fr = ((s + g : Nat) : Int) := by omega
  have hgl : g ≤ R.length := by omega
  have hwr : IntKind.i64.wrap (fr - s) = g := by rw [wrap_in (by omega)]; omega
  have hr := h.row.red
  obtain ⟨va, vc, rfl⟩ := h.row.len
  have HN := hid_mk (dnext_any h)
  have HM := hid_mk (And.intro h (And.intro hBw (And.intro hr hfit)))
  have HT := hid_mk (show toldR R s fr mo = (R.drop g).take mo.toNat from by unfold toldR; rw [hg])
  have hlo : ¬ fr < s := by omega
  obtain ⟨n, hn⟩ : ∃ n, n = s + R.length := ⟨_, rfl⟩
  have hhi : ¬ (n : Int) < fr := by omega
  rw [← hn] at HN
  have HH := hid_mk (And.intro hg (And.intro hfr (And.intro hf' (And.intro hn hf))))
  have hRl : R.length ≤ 5864062014805 := by omega
  obtain ⟨c0, c1, cf⟩ := h.cells
  clear h hBw hr hfit hg hfr hf' hn hf
  go_enter Try.func15, Try.ntmps15
  go_upto_region 3 with (go_at_call 19; refine HN.out.mono ?_; rintro e w' ⟨rfl, m, rfl⟩)
  have G1 := hid_mk (grown_drewN w m none)
  have HSZ := hid_mk (show (w.drewN m).heap.size = w.heap.size from rfl)
  have H1 := hid_mk (HM.out.1.grown (grown_drewN w m none))
  clear c0 c1 cf
  generalize w.drewN m = w1 at *
  obtain ⟨c0, c1, cf⟩ := H1.out.cells
  go_wp2_with fail
  have HFX := hid_mk (And.intro hgl hRl)
  go_loopg [8, 9] (R.length - g) (fun gg ov iv W => ∃ (j : Nat) (oa : Option Addr) (oc : Nat), j ≤ R.length - g ∧ gg = R.length - g - j ∧ iv = .int .i64 ((g + j : Nat) : Int) ∧ ov = .slice oa j oc ∧ Hid (w1.grownBy W none ∧ OwnRec W B (.slice oa j oc) ((R.drop g).take j) ∧ (∀ k, (Value.slice oa j oc).ownBlock = some k → w.heap.size ≤ k) ∧ j ≤ mo.toNat))
  case atStart => exact ⟨0, none, 0, Nat.zero_le _, rfl, by simp, rfl, hid_mk ⟨grown_refl _ _, OwnRec.nil _ _, (fun k e => by cases e), Nat.zero_le _⟩⟩
  case round =>
    obtain ⟨j, oa, oc, hj, hgj, rfl, rfl, H⟩ := hrel
    rename World => W
    clear c0 c1 cf
    have hM2 := H1.out.grown H.out.1
    obtain ⟨c0, c1, cf⟩ := hM2.cells
    by_cases hlt : g + j < R.length
    · have hlt' : ((g + j : Nat) : Int) < R.length := by omega
      by_cases hmo : (j : Int) < mo
      · obtain ⟨b1, o1, k1, he1, hc1⟩ := hM2.row.red.get (g + j) hlt
        injection he1 with e1 e3 e4
        subst e1
        clear e3 e4
        have hel := hM2.row.2 _ (List.getElem_mem hlt)
        obtain ⟨a5, c5, hs5⟩ := hel.byt.len
        have hdj : (R.drop g).length = R.length - g := by rw [List.length_drop]
        have htk : (R.drop g).take (j + 1) = (R.drop g).take j ++ [R[g + j]] := by
          rw [List.take_add_one, List.getElem?_drop, List.getElem?_eq_getElem hlt]; rfl
        have hjl : ((R.drop g).take j).length = j := by rw [List.length_take, hdj]; omega
        have g3 := World.grownBy_alloc W (.cells #[R[g + j].2] 30) none
        obtain ⟨a3, c3, W7, hr3, ho3, hg3, hbl3⟩ := appR2 (H.out.2.1.kept g3) (own_grown hel g3) W.heap.size (blk_alloc W #[R[g + j].2] 30) (by rw [hjl]; omega) (Nat.le_trans HM.out.2.1 (Nat.le_trans G1.out.size (Nat.le_trans H.out.1.size g3.size))) 26
        rw [hjl] at hr3 ho3 hbl3
        have hgw : w1.grownBy W7 none := by
          cases hv4 : (Value.slice oa j oc).ownBlock with
          | none => rw [hv4] at hg3; exact grown_trans (grown_trans H.out.1 g3) hg3
          | some k => rw [hv4] at hg3; exact grown_new (grown_trans H.out.1 g3) hg3 (by have := H.out.2.2.1 k hv4; have := HSZ.out; omega)
        have HR := hid_mk hr3
        rw [hs5] at HR hc1
        have HN2 := hid_mk (show w1.grownBy W7 none ∧ OwnRec W7 B (.slice a3 (j + 1) c3) ((R.drop g).take (j + 1)) ∧ (∀ k, (Value.slice a3 (j + 1) c3).ownBlock = some k → w.heap.size ≤ k) ∧ j + 1 ≤ mo.toNat from
          ⟨hgw, by rw [htk]; exact ho3, fun k e => by
            rcases hbl3 with h9 | h9
            · rw [h9] at e; exact H.out.2.2.1 k e
            · rw [h9] at e
              cases e
              have h8 := H.out.1.size
              have h7 := HSZ.out
              have h6 := g3.size
              omega, by omega⟩)
        have HFJ := hid_mk (show j + 1 ≤ R.length - g by omega)
        have hgj : ((g + j : Nat) : Int) + 1 = ((g + (j + 1) : Nat) : Int) := by omega
        clear hel hs5 hdj htk hjl g3 hr3 ho3 hg3 hbl3 hgw hM2
        have hj1 : (j : Int) ≤ 5864062014805 := by omega
        generalize hG : g + j = G at *
        have HG := hid_mk hG
        clear hG
        go_wp2_with (at_builtin; refine wp_run_app rfl (.tmp 43) (.tmp 51) rfl rfl rfl HR.out ?_)
        go_roundg (R.length - g - (j + 1))
        case measure => omega
        case rel => exact ⟨j + 1, a3, c3, HFJ.out, rfl, by first | (rw [hgj]; done) | (congr 1; omega) | (go_num), rfl, hid_mk HN2.out⟩
      · have HT2 := hid_mk (show toldR R s fr mo = (R.drop g).take j from by rw [HT.out, show j = mo.toNat by have := H.out.2.2.2; omega])
        clear hM2
        generalize hG : g + j = G at *
        clear hG
        go_wp2_with fail
        refine bodyPost_ret (results_tmp2 rfl _ _ _) rfl ?_
        exact ⟨_, rfl, by rw [HT2.out]; exact H.out.2.1, H.out.2.2.1, grown_trans G1.out H.out.1⟩
    · have hlt' : ¬ ((g + j : Nat) : Int) < R.length := by omega
      have HT2 := hid_mk (show toldR R s fr mo = (R.drop g).take j from by
        rw [HT.out, List.take_of_length_le (by rw [List.length_drop]; have := H.out.2.2.2; omega), List.take_of_length_le (by rw [List.length_drop]; omega)])
      clear hM2
      generalize hG : g + j = G at *
      clear hG
      go_wp2_with fail
      refine bodyPost_ret (results_tmp2 rfl _ _ _) rfl ?_
      exact ⟨_, rfl, by rw [HT2.out]; exact H.out.2.1, H.out.2.2.1, grown_trans G1.out H.out.1⟩
/-- Whether two rows of bytes are the same. -/
theorem lists_any {w : World} {u v : Value} {A C : List RV} (hA : RecR w u A) (hC : RecR w v C) (hal : A.length ≤ 5864062014805) (hcl : C.length ≤ 5864062014805) : Calls Try.prog 16 #[u, v] w fun e w' => e = .returned (.bool (decide (A.map (·.1) = C.map (·.1)))) ∧ w.grownBy w' none := by
  obtain ⟨ua, uc, hu⟩ := hA.len
  obtain ⟨va, vc, hv⟩ := hC.len
  obtain ⟨n, hn⟩ : ∃ n, n = A.length := ⟨_, rfl⟩
  obtain ⟨n2, hn2⟩ : ∃ n2, n2 = C.length := ⟨_, rfl⟩
  rw [← hn] at hu hal
  rw [← hn2] at hv hcl
  have HA := hid_mk (And.intro hA hC)
  have HV := hid_mk (And.intro hu hv)
  have HN := hid_mk (And.intro hn hn2)
  rw [hu, hv]
  clear hA hC hu hv hn hn2
  by_cases hl : n = n2
  · subst hl
    clear hcl
    go_enter Try.func16, Try.ntmps16
    go_wp2_with fail
    go_loopg [5] n (fun gg iv W => ∃ k : Nat, k ≤ n ∧ gg = n - k ∧ iv = .int .i64 k ∧ Hid (w.grownBy W none ∧ (A.take k).map (·.1) = (C.take k).map (·.1)))
    case atStart => exact ⟨0, Nat.zero_le _, rfl, rfl, hid_mk ⟨grown_refl _ _, by simp⟩⟩
    case round =>
      obtain ⟨k, hk, hgk, rfl, H⟩ := hrel
      rename World => W
      by_cases hlt0 : k < n
      · have hlt' : (k : Int) < n := by omega
        have hltA : k < A.length := by have := HN.out.1; omega
        have hlt : k < C.length := by have := HN.out.2; omega
        obtain ⟨b1, o1, k1, he1, hc1⟩ := HA.out.1.get k hltA
        obtain ⟨b2, o2, k2, he2, hc2⟩ := HA.out.2.get k hlt
        rw [HV.out.1, ← HN.out.1] at he1
        rw [HV.out.2, ← HN.out.2] at he2
        injection he1 with e1 e3 e4
        injection he2 with e2 e5 e6
        subst e1 e2
        clear e3 e4 e5 e6
        have hb1 := HA.out.1.2 _ (List.getElem_mem hltA)
        have hb2 := HA.out.2.2 _ (List.getElem_mem hlt)
        obtain ⟨a1, d1, hs1⟩ := hb1.len
        obtain ⟨a2, d2, hs2⟩ := hb2.len
        rw [hs1] at hc1 hb1
        rw [hs2] at hc2 hb2
        have HB := hid_mk (show ∀ W', w.grownBy W' none → (W'.cell? ⟨b1, o1 + k, none⟩ = some (.slice a1 A[k].1.length d1) ∧ W'.cell? ⟨b2, o2 + k, none⟩ = some (.slice a2 C[k].1.length d2)) ∧ (convert 30 9 (.slice a1 A[k].1.length d1)).run Try.prog W' = .ok (.string ⟨A[k].1.toArray⟩) W' ∧ (convert 30 9 (.slice a2 C[k].1.length d2)).run Try.prog W' = .ok (.string ⟨C[k].1.toArray⟩) W' from fun W' hW => ⟨⟨hW.cell hc1 (by simp), hW.cell hc2 (by simp)⟩, (hb1.kept hW).text, (hb2.kept hW).text⟩)
        clear hc1 hc2 hb1 hb2 hs1 hs2
        have HS := hid_mk (And.intro (take_succ_map hltA) (take_succ_map hlt))
        have HEQ := hid_mk (show A.map (·.1) = C.map (·.1) → A[k].1 = C[k].1 from fun e => by
          have h1 : (A.map (·.1))[k]? = (C.map (·.1))[k]? := by rw [e]
          rw [List.getElem?_map, List.getElem?_map, List.getElem?_eq_getElem hltA, List.getElem?_eq_getElem hlt] at h1
          simpa using h1)
        generalize A[k].1 = x at *
        generalize C[k].1 = y at *
        clear hltA hlt
        obtain ⟨⟨q1, q2⟩, t1, t2⟩ := HB.out W H.out.1
        have t3 := fun nq => (HB.out (W.drewN nq) (grown_trans H.out.1 (grown_drewN W nq none))).2.1
        have t4 := fun nq => (HB.out (W.drewN nq) (grown_trans H.out.1 (grown_drewN W nq none))).2.2
        by_cases hxy : x = y
        · subst hxy
          go_upto_region 6 with fail
          go_quiet (fail)
          go_wp2_with fail
          go_roundg (n - (k + 1))
          case measure => omega
          case rel => exact ⟨k + 1, by omega, rfl, by go_num, hid_mk ⟨grown_trans H.out.1 (grown_drewN W _ none), by rw [HS.out.1, HS.out.2, H.out.2]⟩⟩
        · have hs : (x == y) = false := beq_eq_false_iff_ne.2 hxy
          have HF := hid_mk (show decide (A.map (·.1) = C.map (·.1)) = false from decide_eq_false (fun e => hxy (HEQ.out e)))
          go_upto_region 6 with fail
          go_quiet (fail)
          go_wp2_with fail
          go_ret
          exact ⟨ret_bool HF.out.symm, grown_trans H.out.1 (grown_drewN W _ none)⟩
      · have hlt' : ¬ (k : Int) < n := by omega
        have HF := hid_mk (show decide (A.map (·.1) = C.map (·.1)) = true from decide_eq_true (by
          have h1 := H.out.2
          rwa [List.take_of_length_le (by have := HN.out.1; omega), List.take_of_length_le (by have := HN.out.2; omega)] at h1))
        go_wp2_with fail
        go_ret
        exact ⟨ret_bool HF.out.symm, H.out.1⟩
  · have hl' : ((n : Int) != n2) = true := by simp; omega
    have HF := hid_mk (show decide (A.map (·.1) = C.map (·.1)) = false from decide_eq_false (fun e => hl (by have := congrArg List.length e; simp only [List.length_map] at this; have := HN.out; omega)))
    go_enter Try.func16, Try.ntmps16
    go_wp2_with fail
    go_ret
    exact ⟨ret_bool HF.out.symm, grown_refl _ _⟩
end Go.Proofs.Ythbfjpaimnhpgaa
