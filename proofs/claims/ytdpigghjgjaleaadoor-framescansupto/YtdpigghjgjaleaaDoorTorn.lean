/- FrameTorn: its walk. -/
import Derived.Test.YtdpigghjgjaleaaDoorFrow
import Derived.Test.YtdpigghjgjaleaaDoorSums
namespace Go.Proofs.YtdpigghjgjaleaaDoor
open Go.RowKit Go.Maps
set_option linter.unusedVariables false
set_option linter.unusedSimpArgs false

theorem alike_of {s : List Fr} {gs : List RF} (h : s.map Fr.pr = prs gs) (ok : ∀ f ∈ gs, okF f) : Alike s gs := by
  unfold Alike
  induction s generalizing gs with
  | nil => cases gs with
    | nil => rfl
    | cons g gs => simp [prs] at h
  | cons f s ih =>
    cases gs with
    | nil => simp [prs] at h
    | cons g gs =>
      simp only [prs, List.map_cons, List.cons.injEq] at h ⊢
      obtain ⟨h1, h2⟩ := h
      refine ⟨?_, ih h2 (fun f hf => ok f (by simp [hf]))⟩
      have hk := okF_le (ok g (by simp))
      simp only [Fr.pr, Prod.mk.injEq] at h1
      rw [h1.1, h1.2]
      have : ((UInt8.ofNat g.kind.toNat).toNat : Int) = g.kind := by simp; omega
      rw [this]
theorem prs_take (fs : List RF) (n : Nat) : prs (fs.take n) = (prs fs).take n := by simp [prs, List.map_take]
theorem told_torn (fs : List (UInt8 × List UInt8)) (hf : ∀ f ∈ fs, f.2.length ≤ 65536) (c : Nat) {s : List Fr} (h : Told ((rowB fs).take c) s) : s.map Fr.pr = fs.take (wholeN fs c) ∧ endOf s = (rowB (fs.take (wholeN fs c))).length := by
  unfold Told at h
  rw [scanB_torn fs hf] at h
  simp only [Prod.mk.injEq] at h
  exact ⟨h.1.symm, h.2.symm⟩
theorem ints_cell {W : World} {B : Nat} {v : Value} {n : Nat} {l : List Nat} (h : W.ownsRow B 3 1 v n (i64s l)) (h0 : 0 < n) : ∃ g cap, v = .slice (some ⟨g, 0, none⟩) n cap ∧ ∀ (j x : Nat), l[j]? = some x → W.cell? ⟨g, j, none⟩ = some (.int .i64 x) := by
  rcases h.2 with ⟨_, h0'⟩ | ⟨g, cap, cur, hv, _, hg, h1, h2, h3, h4⟩
  · omega
  · refine ⟨g, cap, hv, fun j x hj => ?_⟩
    have hj' : (i64s l)[j]? = some (.int .i64 x) := by simp [i64s, hj]
    rw [← h4, List.getElem?_take] at hj'
    rw [cell_of_row _ _ _ _ _ _ hg]
    split at hj'
    · simpa using hj'
    · cases hj'
theorem endsL_get (fs : List RF) (j : Nat) (hj : j < fs.length) : (endsL fs)[j]? = some (rowB ((prs fs).take (j + 1))).length := by
  simp [endsL, hj, prs_take]

set_option maxRecDepth 100000 in
set_option maxHeartbeats 8000000 in
theorem torn_any (fv : Value) (fs : List RF) (cut : Int) (w : World) (h : Frs w fv fs) (hl : fs.length ≤ 140737488355328) (ht : Tab w) :
    Calls Tryd.prog 6 #[fv, .int .i64 cut] w fun e w' => e = .returned (.bool true) ∧ w.grownBy w' none := by
  obtain ⟨av, cv, rfl⟩ := h.len
  have HF := hid_mk h
  have HT := hid_mk ht
  clear h ht
  go_enter Tryd.func6, Tryd.ntmps6
  go_wp2_with fail
  refine (row_any _ fs w HF.out hl HT.out).mono ?_
  rintro e w1 ⟨hg1, (rfl | ⟨ba, bc, ea, ec, hok, rfl, hob, hoe⟩)⟩
  · have H1 := hid_mk hg1
    clear hg1
    go_wp2_with fail
    refine (knows_any w1 (HT.out.kept H1.out)).mono ?_
    rintro e w2 ⟨rfl, hg2⟩
    go_wp2
    go_ret
    exact ⟨rfl, grown_trans H1.out hg2⟩
  · have HP := hid_mk (prs_ok hok)
    have hLb := row_len_le _ hok
    have hm50 : (fs.take 50).length ≤ 50 := by simp; omega
    have hml : (fs.take 50).length ≤ fs.length := by simp; omega
    obtain ⟨L, hL⟩ : ∃ L, L = (rowB (prs (fs.take 50))).length := ⟨_, rfl⟩
    obtain ⟨m, hm⟩ : ∃ m, m = (fs.take 50).length := ⟨_, rfl⟩
    rw [← hL] at hLb hob ⊢
    rw [← hm] at hm50 hml hLb hoe ⊢
    have hLb' : L ≤ 3277250 := by omega
    have H1 := hid_mk (And.intro hg1 (And.intro hok (And.intro hob hoe)))
    have HL := hid_mk hL
    have HM := hid_mk hm
    clear hg1 hok hob hoe hL hm hLb
    go_wp2_with fail
    refine (scan_any _ (rowB (prs (fs.take 50))) w1 H1.out.2.2.1.byt (HT.out.kept H1.out.1) (by rw [← HL.out]; omega)).mono ?_
    rintro e w2 ⟨s, lv, hT, rfl, hrow, hg2⟩
    obtain ⟨hs1, hs2⟩ := told_row _ HP.out hT
    rw [hs2, ← HL.out]
    obtain ⟨la, lc, rfl⟩ := row_shape hrow.1
    have hsl : s.length = m := by
      have := congrArg List.length hs1
      rw [HM.out]; simpa [prs] using this
    have HS := hid_mk (And.intro hrow (And.intro hs1 hsl))
    rw [hsl]
    have H2 := hid_mk (grown_trans H1.out.1 hg2)
    have G12 := hid_mk hg2
    clear hT hrow hg2 hs1 hs2 hsl
    obtain ⟨q1, q2, q3⟩ := twice_mod cut ((L : Int) + 1) (by omega) (by omega)
    have hm0 := Int.emod_nonneg cut (b := (L : Int) + 1) (by omega)
    have hm1 := Int.emod_lt_of_pos cut (b := (L : Int) + 1) (by omega)
    obtain ⟨c, hc⟩ : ∃ c : Nat, cut % ((L : Int) + 1) = (c : Int) := ⟨(cut % ((L : Int) + 1)).toNat, by omega⟩
    have q3' : (cut.tmod ((L : Int) + 1) + (L : Int) + 1).tmod ((L : Int) + 1) = (c : Int) := by rw [← hc, ← q3, Int.add_assoc]
    have hcL : c ≤ L := by omega
    have hne1 : ¬ ((L : Int) + 1 = 0) := by omega
    clear q3 hm0 hm1 hc
    obtain ⟨P, hP⟩ : ∃ P, P = prs (fs.take 50) := ⟨_, rfl⟩
    have hPl : P.length = m := by rw [hP, HM.out]; simp [prs]
    have HPE := hid_mk (And.intro hP hPl)
    obtain ⟨N, hN⟩ : ∃ N, N = wholeN P c := ⟨_, rfl⟩
    have hNm : N ≤ m := by rw [hN, ← hPl]; exact wholeN_le P c
    have HN := hid_mk hN
    have HEND : Hid (∀ j, j < m → (endsL (fs.take 50))[j]? = some (rowB (P.take (j + 1))).length) := hid_mk fun j hj => by rw [hP]; exact endsL_get _ j (by rw [← HM.out]; exact hj)
    clear hP hPl hN
    have HCMP : Hid (∀ j, j < m → ((rowB (P.take (j + 1))).length ≤ c ↔ j < N)) := hid_mk fun j hj => by rw [HN.out]; exact wholeN_iff P c j (by rw [HPE.out.2]; exact hj)
    have HROW : Hid (Row w2 w1.heap.size (.slice la m lc) s) := by have := HS.out.1; rw [HS.out.2.2] at this; exact hid_mk this
    by_cases h50 : fs.length ≤ 50
    focus
      (have hfs : fs.take 50 = fs := List.take_of_length_le h50
       have hms : Calls Tryd.prog 21 #[.slice la m lc, .slice av fs.length cv] w2 fun e w' => e = .returned (.bool true) ∧ w2.grownBy w' none :=
         same_any w1.heap.size _ s _ fs w2 HROW.out (HF.out.kept H2.out) (alike_of (by rw [HS.out.2.1, hfs]) (by rw [← hfs]; exact H1.out.2.1)) (by rw [HS.out.2.2]; omega)
       have HMS := hid_mk hms
       have H50 := hid_mk hfs
       clear hms hfs
       go_wp2_with (go_at_call 21; refine HMS.out.mono ?_; rintro e w3 ⟨rfl, hg3⟩; have G3 := hid_mk hg3; clear hg3)
       clear H50 HMS)
    rotate_left
    focus
      (have h50' : ¬ ((fs.length : Int) ≤ 50) := by omega
       go_wp2_with fail
       have G3 : Hid (w2.grownBy w2 none) := hid_mk (grown_refl _ _)
       obtain ⟨w3, hw3⟩ : ∃ w3, w3 = w2 := ⟨_, rfl⟩
       rw [← hw3]
       have G3 : Hid (w2.grownBy w3 none) := hid_mk (by rw [hw3]; exact grown_refl _ _)
       clear hw3 h50')
    all_goals
      have HE3 : Hid (w3.ownsRow w.heap.size 3 1 (.slice ea m ec) m (i64s (endsL (fs.take 50)))) := hid_mk (owns_kept H1.out.2.2.2 (grown_trans G12.out G3.out) (fun _ _ _ => by simp))
      clear h50
      go_loop [11, 12, 13] (fun n r i => ∃ (j x : Nat), j ≤ m ∧ i = .int .i64 j ∧ n = .int .i64 (min j N : Nat) ∧ r = .int .i64 x ∧ Hid (x = (rowB (P.take (min j N))).length)) (fun n r i => m - (intOf i).toNat)
      case atStart => exact ⟨0, 0, Nat.zero_le _, rfl, by simp, rfl, hid_mk (by simp [rowB])⟩
      case round =>
        obtain ⟨j, x, hj, rfl, rfl, rfl, hx⟩ := hrel
        by_cases hjm : j < m
        · obtain ⟨ge, ec', e1, hcells⟩ := ints_cell HE3.out (by omega)
          injection e1 with e1 _ e3
          subst e1
          subst e3
          have hcell := hcells j _ (HEND.out j hjm)
          obtain ⟨y, hy⟩ : ∃ y, y = (rowB (P.take (j + 1))).length := ⟨_, rfl⟩
          rw [← hy] at hcell
          have hcmp := HCMP.out j hjm
          rw [← hy] at hcmp
          have HY := hid_mk hy
          clear hy hcells
          by_cases hjN : j < N
          · have hyc : y ≤ c := hcmp.2 hjN
            have hyI : (y : Int) ≤ (c : Int) := by omega
            have e1 : min j N = j := by omega
            have e2 : min (j + 1) N = j + 1 := by omega
            rw [e1]
            have E2 := hid_mk e2
            clear hcmp e1 e2 hx
            go_wp2
            go_round
            case rel => exact ⟨j + 1, y, by omega, by go_num, by rw [E2.out]; go_num, rfl, hid_mk (by rw [E2.out]; exact HY.out)⟩
            case measure => simp [intOf]; omega
          · have hyc : ¬ y ≤ c := fun h => hjN (hcmp.1 h)
            have hyI : ¬ ((y : Int) ≤ (c : Int)) := by omega
            have e1 : min j N = N := by omega
            have e2 : min (j + 1) N = N := by omega
            rw [e1] at hx ⊢
            have E2 := hid_mk e2
            clear hcmp e1 e2
            go_wp2
            go_round
            case rel => exact ⟨j + 1, x, by omega, by go_num, by rw [E2.out], rfl, hid_mk (by rw [E2.out]; exact hx.out)⟩
            case measure => simp [intOf]; omega
        · have hjm' : j = m := by omega
          subst hjm'
          have e1 : min j N = N := by omega
          rw [e1] at hx ⊢
          clear e1
          have hb3 : Byt w3 (.slice ba L bc) (rowB P) := by rw [HPE.out.1]; exact H1.out.2.2.1.byt.kept (grown_trans G12.out G3.out)
          have hLP : (rowB P).length = L := by rw [HPE.out.1]; exact HL.out.symm
          obtain ⟨a5, c5, hsl5, hb5⟩ := hb3.h c (by rw [hLP]; exact hcL)
          have hok3 : ∀ f ∈ fs.take N, okF f := fun f hf => H1.out.2.1 f (by
            have : fs.take N = (fs.take 50).take N := by rw [List.take_take, Nat.min_eq_left (by omega)]
            rw [this] at hf
            exact List.mem_of_mem_take hf)
          have hPN : P.take N = prs (fs.take N) := by rw [HPE.out.1, prs_take, prs_take, List.take_take, Nat.min_eq_left (by omega)]
          have hf3 : Frs w3 (.slice av fs.length cv) fs := (HF.out.kept H2.out).kept G3.out
          obtain ⟨a6, c6, hsl6, hfr6⟩ := hf3.take N (by omega)
          have HQ := hid_mk (And.intro hb5 (And.intro hok3 (And.intro hPN (And.intro hfr6 hLP))))
          have HPK := hid_mk (show ∀ f ∈ P, f.2.length ≤ 65536 by rw [HPE.out.1]; exact HP.out)
          clear hb3 hLP hb5 hok3 hPN hf3 hfr6
          go_wp2_with fail
          refine (scan_any _ ((rowB P).take c) w3 HQ.out.1 ((HT.out.kept H2.out).kept G3.out) (by simp; omega)).mono ?_
          rintro e w4 ⟨s2, lv2, hT2, rfl, hrow2, hg4⟩
          obtain ⟨hs1, hs2⟩ := told_torn P HPK.out c hT2
          rw [← HN.out] at hs1 hs2
          rw [← hx.out] at hs2
          have hlen2 : ((rowB P).take c).length = c := by rw [List.length_take, HQ.out.2.2.2.2]; omega
          rw [hs2, hlen2]
          have hs2l : s2.length = N := by
            have h1 := congrArg List.length hs1
            rw [HQ.out.2.2.1] at h1
            simp [prs] at h1
            omega
          obtain ⟨la2, lc2, rfl⟩ := row_shape hrow2.1
          rw [hs2l] at hrow2 ⊢
          have hB : ((c : Int) == (x : Int)) = decide (x = c) := by
            by_cases h : x = c
            · simp [h]
            · rw [decide_eq_false h]; simp; omega
          generalize decide (x = c) = B at *
          have hms : Calls Tryd.prog 21 #[.slice la2 N lc2, .slice a6 N c6] w4 fun e w' => e = .returned (.bool true) ∧ w4.grownBy w' none :=
            same_any w3.heap.size _ s2 _ (fs.take N) w4 hrow2 (HQ.out.2.2.2.1.kept hg4) (alike_of (by rw [hs1, HQ.out.2.2.1]) HQ.out.2.1) (by omega)
          have HMS := hid_mk hms
          have G4 := hid_mk hg4
          have HX2 := hid_mk (And.intro hs1 hs2)
          clear hms hrow2 hg4 hT2 hlen2 hs1 hs2
          go_wp2_with (first
            | (go_at_call 21; refine HMS.out.mono ?_; rintro e w5 ⟨rfl, hg5⟩; have G5 := hid_mk hg5; clear hg5)
            | (go_at_call 13; refine (knows_any _ ((((HT.out.kept H2.out).kept G3.out).kept G4.out).kept G5.out)).mono ?_; rintro e w6 ⟨rfl, hg6⟩; have G6 := hid_mk hg6; clear hg6))
          go_ret
          exact ⟨rfl, grown_trans H2.out (grown_trans G3.out (grown_trans G4.out (grown_trans G5.out G6.out)))⟩

end Go.Proofs.YtdpigghjgjaleaaDoor
