/- FrameFirst: its walk. -/
import Derived.Test.YtdpigghjgjaleaaDoorTorn
namespace Go.Proofs.YtdpigghjgjaleaaDoor
open Go.RowKit Go.Maps
set_option linter.unusedVariables false
set_option linter.unusedSimpArgs false

theorem elem37 : Tryd.prog.elem 37 = 45 := by kernel_rfl
theorem under37 : Tryd.prog.underlying 37 = some (.slice (Tryd.prog.elem 37)) := by rw [elem37]; exact Tryd.underlying37
theorem cellsOf_len (s : List Fr) : (cellsOf s).length = s.length * 2 := by
  induction s with
  | nil => rfl
  | cons f s ih => simp [cellsOf] at ih ⊢; omega
theorem cellsOf_take (s : List Fr) (m : Nat) : cellsOf (s.take m) = (cellsOf s).take (m * 2) := by
  induction s generalizing m with
  | nil => simp [cellsOf]
  | cons f s ih =>
    cases m with
    | zero => simp [cellsOf]
    | succ m =>
      have e : ∀ t : List Fr, cellsOf (f :: t) = .int .i64 f.k.toNat :: f.dv :: cellsOf t := fun t => by simp [cellsOf]
      rw [List.take_succ_cons, e, e, ih, show (m + 1) * 2 = m * 2 + 1 + 1 by omega, List.take_succ_cons, List.take_succ_cons]
/-- The first frames of a row. -/
theorem Row.take {W : World} {n₀ : Nat} {a : Option Addr} {n c : Nat} {s : List Fr} (h : Row W n₀ (.slice a n c) s) (m : Nat) (hm : m ≤ s.length) :
    (∀ w', (Instr.slice 37 (.slice a n c) none (some (.int .i64 m)) none).run Tryd.prog w' = .ok (.slice a m c) w') ∧ Row W n₀ (.slice a m c) (s.take m) := by
  have hlen : (s.take m).length = m := by simp; omega
  have hc : m ≤ c ∧ (a = none → m = 0 ∧ c = 0) := by
    rcases h.1.2 with ⟨e, h0⟩ | ⟨g, cap, cur, e, _, _, h1, _⟩
    · cases e; exact ⟨by omega, fun _ => ⟨by omega, rfl⟩⟩
    · cases e; exact ⟨by omega, fun e => by cases e⟩
  refine ⟨fun w' => ?_, ?_, fun f hf => h.2 f (List.mem_of_mem_take hf)⟩
  · rw [run_slice_h w' 37 a n c under37 .i64 m (by omega) (by omega), elem37, Tryd.sizeOf45 w']
    have e2 : (if c = 0 then a else a.map (fun x => x.add (0 * 2))) = a := by
      split
      · rfl
      · cases a <;> simp [Addr.add]
    simp [Result.andThen, sliced, e2]
  · rw [hlen]
    refine ⟨by rw [cellsOf_len, hlen], ?_⟩
    rcases h.1.2 with ⟨e, h0⟩ | ⟨g, cap, cur, e, hb, hg, h1, h2, h3, h4⟩
    · cases e; exact .inl ⟨by rw [show m = 0 by omega], by omega⟩
    · cases e
      refine .inr ⟨g, c, cur, rfl, hb, hg, by omega, h2, h3, ?_⟩
      rw [cellsOf_take, ← h4, List.take_take, Nat.min_eq_left (by omega)]

theorem told_front (P : List (UInt8 × List UInt8)) (hP : ∀ f ∈ P, f.2.length ≤ 65536) (more : List UInt8) {s1 s2 : List Fr} (h1 : Told (rowB P ++ more) s1) (h2 : Told more s2) : s1.map Fr.pr = P ++ s2.map Fr.pr ∧ endOf s1 = (rowB P).length + endOf s2 := by
  unfold Told at h1 h2
  rw [scanB_row P hP, h2] at h1
  simp only [Prod.mk.injEq] at h1
  exact ⟨h1.1.symm, h1.2.symm⟩

theorem scanB_le (l : List UInt8) : (scanB l).2 ≤ l.length := by
  generalize hn : l.length = n
  induction n using Nat.strongRecOn generalizing l with
  | ind n ih =>
    cases h : firstB l with
    | none => rw [scanB_none h]; simp
    | some f =>
      obtain ⟨_, h2, _⟩ := firstB_len (k := f.1) (d := f.2) h
      rw [scanB_some (k := f.1) (d := f.2) h]
      have := ih (l.drop (f.2.length + 9)).length (by simp; omega) (l.drop (f.2.length + 9)) rfl
      simp only [List.length_drop] at this
      simp only
      omega
theorem told_le {l : List UInt8} {s : List Fr} (h : Told l s) : endOf s ≤ l.length := by
  have := scanB_le l
  unfold Told at h
  rw [h] at this
  exact this

set_option maxRecDepth 100000 in
set_option maxHeartbeats 8000000 in
theorem front_any (fv mv : Value) (fs : List RF) (more : List UInt8) (w : World) (h : Frs w fv fs) (hl : fs.length ≤ 140737488355328) (hmo : Byt w mv more) (hml : more.length ≤ 10000000) (ht : Tab w) :
    Calls Tryd.prog 8 #[fv, mv] w fun e w' => e = .returned (.bool true) ∧ w.grownBy w' none := by
  obtain ⟨av, cv, rfl⟩ := h.len
  obtain ⟨ma, mc, rfl⟩ := hmo.len
  have HF := hid_mk h
  have HT := hid_mk ht
  have HMO := hid_mk hmo
  clear h ht hmo
  go_enter Tryd.func8, Tryd.ntmps8
  go_wp2_with fail
  refine (row_any _ fs w HF.out hl HT.out).mono ?_
  rintro e w1 ⟨hg1, (rfl | ⟨ba, bc, ea, ec, hok, rfl, hob, hoe⟩)⟩
  · have H1 := hid_mk hg1
    clear hg1
    go_wp2_with fail
    refine (knows_any w1 (HT.out.kept H1.out)).mono ?_
    rintro e w2 ⟨rfl, hg2⟩
    go_wp2
    go_ret
    exact ⟨rfl, grown_trans H1.out hg2⟩
  · by_cases h50 : fs.length ≤ 50
    rotate_left
    · have h50' : (50 : Int) < (fs.length : Int) := by omega
      have H1 := hid_mk hg1
      clear hg1 hok hob hoe
      go_wp2_with fail
      refine (knows_any w1 (HT.out.kept H1.out)).mono ?_
      rintro e w2 ⟨rfl, hg2⟩
      go_wp2
      go_ret
      exact ⟨rfl, grown_trans H1.out hg2⟩
    have h50' : ¬ ((50 : Int) < (fs.length : Int)) := by omega
    have hfs : fs.take 50 = fs := List.take_of_length_le h50
    rw [hfs] at hok hob hoe ⊢
    have HP := hid_mk (prs_ok hok)
    have hLb := row_len_le _ hok
    obtain ⟨L, hL⟩ : ∃ L, L = (rowB (prs fs)).length := ⟨_, rfl⟩
    rw [← hL] at hLb hob ⊢
    have hLb' : L ≤ 3277250 := by omega
    have H1 := hid_mk (And.intro hg1 (And.intro hok hob))
    have HL := hid_mk hL
    obtain ⟨K, hK⟩ : ∃ K, K = more.length := ⟨_, rfl⟩
    rw [← hK] at hml ⊢
    rw [← hK] at HMO
    have HK := hid_mk hK
    have HE1 := hid_mk (own_empty w1)
    clear hg1 hok hob hoe hL hLb hfs hK
    go_wp2_with (first
      | (at_builtin; refine wpList_append_new w1 _ rfl (.tmp 30) (.tmp 31) rfl (World.grownBy_alloc _ _ _) (.slice (some ⟨w1.heap.size, 0, none⟩) 0 0) [] rfl HE1.out (rowB (prs fs)) _ rfl (H1.out.2.2.byt.kept (World.grownBy_alloc _ _ _)) (by rw [← HL.out]; simp; omega) ?_; intro a2 c2 w2 O2; simp only [List.length_nil, Nat.zero_add, List.nil_append] at O2 ⊢)
      | (at_builtin; refine wpList_append_new w1 _ rfl (.tmp 32) (.tmp 33) rfl O2.out.2.1 _ (rowB (prs fs)) rfl O2.out.1 more _ rfl ((HMO.out.kept H1.out.1).kept O2.out.2.1) (by rw [← HL.out, ← HK.out]; omega) ?_; intro a3 c3 w3 O3))
    have o3 := O3.out.1.byt
    have P3 := hid_mk (And.intro o3 (grown_trans H1.out.1 O3.out.2.1))
    clear o3 O3 O2 HE1
    have hlen3 : (rowB (prs fs) ++ more).length = L + K := by rw [List.length_append, ← HL.out, ← HK.out]
    refine (scan_any _ (rowB (prs fs) ++ more) w3 P3.out.1 (HT.out.kept P3.out.2) (by rw [hlen3]; omega)).mono ?_
    rintro e w4 ⟨s1, lv1, hT1, rfl, hrow1, hg4⟩
    have P4 := hid_mk (And.intro hT1 (And.intro hrow1 (And.intro hg4 (grown_trans P3.out.2 hg4))))
    obtain ⟨la1, lc1, rfl⟩ := row_shape hrow1.1
    rw [hlen3]
    clear hT1 hrow1 hg4 hlen3
    go_wp2_with fail
    refine (scan_any _ more w4 (HMO.out.kept P4.out.2.2.2) (HT.out.kept P4.out.2.2.2) (by rw [← HK.out]; omega)).mono ?_
    rintro e w5 ⟨s2, lv2, hT2, rfl, hrow2, hg5⟩
    obtain ⟨la2, lc2, rfl⟩ := row_shape hrow2.1
    rw [← HK.out]
    obtain ⟨hs1, hs2⟩ := told_front (prs fs) HP.out more P4.out.1 hT2
    rw [← HL.out] at hs2
    obtain ⟨n1, hn1⟩ : ∃ n, n = s1.length := ⟨_, rfl⟩
    obtain ⟨n2, hn2⟩ : ∃ n, n = s2.length := ⟨_, rfl⟩
    obtain ⟨E1, hE1⟩ : ∃ n, n = endOf s1 := ⟨_, rfl⟩
    obtain ⟨E2, hE2⟩ : ∃ n, n = endOf s2 := ⟨_, rfl⟩
    have hn12 : n1 = fs.length + n2 := by
      have := congrArg List.length hs1
      rw [hn1, hn2]; simpa [prs] using this
    have hE12 : E1 = L + E2 := by rw [hE1, hE2]; exact hs2
    have hr1 : Row w5 w3.heap.size (.slice la1 n1 lc1) s1 := by rw [hn1]; exact P4.out.2.1.kept hg5 (fun _ _ _ _ _ => by simp)
    have hr2 : Row w5 w4.heap.size (.slice la2 n2 lc2) s2 := by rw [hn2]; exact hrow2
    rw [← hn1, ← hn2, ← hE1, ← hE2]
    have hn2b : n2 ≤ 100000000 := by
      have h1 := len_endOf s2
      have h2 : endOf s2 ≤ more.length := told_le hT2
      have := HK.out
      omega
    have hE2b : E2 ≤ 10000000 := by
      have h2 : endOf s2 ≤ more.length := told_le hT2
      have := HK.out
      omega
    have hB : decide (E1 = L + K) = decide (E2 = K) := by
      by_cases hq : E2 = K
      · rw [decide_eq_true hq, decide_eq_true (by omega)]
      · rw [decide_eq_false hq, decide_eq_false (by omega)]
    rw [hB]
    generalize decide (E2 = K) = B at *
    obtain ⟨hsl, hr3⟩ := hr1.take fs.length (by omega)
    have hms : Calls Tryd.prog 21 #[.slice la1 fs.length lc1, .slice av fs.length cv] w5 fun e w' => e = .returned (.bool true) ∧ w5.grownBy w' none :=
      same_any _ _ (s1.take fs.length) _ fs w5 hr3 (HF.out.kept (grown_trans P4.out.2.2.2 hg5)) (alike_of (by rw [List.map_take, hs1, List.take_left']; simp [prs]) H1.out.2.1) (by simp; omega)
    have HMS := hid_mk hms
    have HR := hid_mk (And.intro hr1 hr2)
    have HS := hid_mk (And.intro hs1 (And.intro hn1 hn2))
    have G5 := hid_mk (grown_trans P4.out.2.2.2 hg5)
    have hn12I : (n1 : Int) = (fs.length : Int) + (n2 : Int) := by omega
    have hE12I : (E1 : Int) = (L : Int) + (E2 : Int) := by omega
    have H12 := hid_mk (And.intro hn12 hE12)
    clear hT2 hrow2 hg5 hs1 hs2 hn1 hn2 hE1 hE2 hr1 hr2 hr3 hms hB hn12 hE12
    go_wp2_with (go_at_call 21; refine HMS.out.mono ?_; rintro e w6 ⟨rfl, hg6⟩; have G6 := hid_mk hg6; clear hg6)
    go_loopw [14] (fun t wr => ∃ j : Nat, j ≤ n2 ∧ t = .int .i64 j ∧ Hid (w5.grownBy wr none)) (fun t _ => n2 - (intOf t).toNat)
    case atStart => exact ⟨0, Nat.zero_le _, rfl, G6⟩
    case round =>
      obtain ⟨j, hj, rfl, HG⟩ := hrel
      by_cases hlt : j < n2
      · obtain ⟨g1, c1', e1, _, hc1⟩ := HR.out.1.at (by have := HS.out.2.1; have := H12.out.1; omega)
        obtain ⟨g2, c2', e2, _, hc2⟩ := HR.out.2.at (by have := HS.out.2.2; omega)
        injection e1 with e1 _ e1c
        injection e2 with e2 _ e2c
        subst e1
        subst e2
        have hj1 : fs.length + j < s1.length := by have := HS.out.2.1; have := H12.out.1; omega
        have hj2 : j < s2.length := by have := HS.out.2.2; omega
        obtain ⟨f1, hf1⟩ : ∃ f, s1[fs.length + j]? = some f := ⟨_, List.getElem?_eq_getElem hj1⟩
        obtain ⟨f2, hf2⟩ : ∃ f, s2[j]? = some f := ⟨_, List.getElem?_eq_getElem hj2⟩
        have heq : f1.pr = f2.pr := by
          have := congrArg (fun l => l[fs.length + j]?) HS.out.1
          simp only [List.getElem?_map, hf1] at this
          rw [List.getElem?_append_right (by simp [prs])] at this
          simpa [prs, hf2] using this
        obtain ⟨a1, a2⟩ := hc1 _ f1 hf1
        obtain ⟨b1, b2⟩ := hc2 _ f2 hf2
        have a3 := (HR.out.1.2 f1 (List.mem_of_getElem? hf1)).byt
        have b3 := (HR.out.2.2 f2 (List.mem_of_getElem? hf2)).byt
        simp only [Fr.pr, Prod.mk.injEq] at heq
        obtain ⟨ek, ed⟩ := heq
        have G : ∀ nq, w5.grownBy (wr.drewN nq) none := fun nq => grown_trans HG.out (grown_drewN _ _ none)
        have A1 : ∀ nq, (wr.drewN nq).cell? ⟨g1, (fs.length + j) * 2, none⟩ = some (.int .i64 f1.k.toNat) := fun nq => by rw [Nat.mul_comm]; exact (G nq).cell a1 (by simp)
        have A2 : ∀ nq, (wr.drewN nq).cell? ⟨g1, (fs.length + j) * 2 + 1, none⟩ = some f1.dv := fun nq => by rw [Nat.mul_comm]; exact (G nq).cell a2 (by simp)
        have B1 : ∀ nq, (wr.drewN nq).cell? ⟨g2, j * 2, none⟩ = some (.int .i64 f1.k.toNat) := fun nq => by rw [Nat.mul_comm, ek]; exact (G nq).cell b1 (by simp)
        have B2 : ∀ nq, (wr.drewN nq).cell? ⟨g2, j * 2 + 1, none⟩ = some f2.dv := fun nq => by rw [Nat.mul_comm]; exact (G nq).cell b2 (by simp)
        have T1 := fun nq => (a3.kept (G nq)).text
        have T2 := fun nq => (b3.kept (G nq)).text
        rw [← ed] at T2
        obtain ⟨fa, fcc, hfd⟩ := a3.len
        obtain ⟨ga, gcc, hgd⟩ := b3.len
        rw [hfd] at A2 T1
        rw [hgd] at B2 T2
        generalize f1.d.length = m1 at *
        generalize f2.d.length = m2 at *
        generalize f1.d = fd at *
        have hI : (j : Int) < (n2 : Int) := by omega
        have hI0 : (0 : Int) ≤ (j : Int) := by omega
        have hI1 : (fs.length : Int) + (j : Int) < (n1 : Int) := by omega
        have hN : ((fs.length : Int) + (j : Int)).toNat = fs.length + j := by omega
        clear a1 a2 b1 b2 b3 a3 ek ed G hf1 hf2 hfd hgd hc1 hc2 hj1 hj2
        go_wp2
        go_quiet (fail)
        go_wp2
        go_roundw
        case rel => exact ⟨j + 1, by omega, by go_num, hid_mk (grown_trans HG.out (grown_drewN _ _ none))⟩
        case measure => simp [intOf]; omega
      · have hjn : j = n2 := by omega
        subst hjn
        go_wp2_with fail
        refine (knows_any wr ((HT.out.kept G5.out).kept HG.out)).mono ?_
        rintro e w7 ⟨rfl, hg7⟩
        go_wp2
        go_ret
        exact ⟨rfl, grown_trans G5.out (grown_trans HG.out hg7)⟩

end Go.Proofs.YtdpigghjgjaleaaDoor
