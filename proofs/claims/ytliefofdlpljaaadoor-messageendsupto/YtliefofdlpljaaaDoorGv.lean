/- read. -/
import Derived.Test.YtliefofdlpljaaaDoorGv0
namespace Go.Proofs.YtliefofdlpljaaaDoor
open Go.RowKit Go.Maps
set_option linter.unusedVariables false
set_option linter.unusedSimpArgs false

theorem mb_all {w : World} {t : TypeId} {b : Nat} {m : Msg} {ev sv dv : Value} (k : MB w t b m ev sv dv) : w.cell? ⟨b, 0, none⟩ = some (.int .i64 m.kind) ∧ w.cell? ⟨b, 1, none⟩ = some (.int .i64 m.frm) ∧ w.cell? ⟨b, 2, none⟩ = some (.int .i64 m.dst) ∧ w.cell? ⟨b, 3, none⟩ = some (.int .i64 m.term) ∧ w.cell? ⟨b, 4, none⟩ = some (.int .i64 m.a) ∧ w.cell? ⟨b, 5, none⟩ = some (.int .i64 m.b) ∧ w.cell? ⟨b, 6, none⟩ = some (.int .i64 m.c) ∧ w.cell? ⟨b, 7, none⟩ = some (.int .i64 m.d) ∧ w.cell? ⟨b, 8, none⟩ = some (.bool m.yes) ∧ w.cell? ⟨b, 9, none⟩ = some ev ∧ w.cell? ⟨b, 10, none⟩ = some sv ∧ w.cell? ⟨b, 11, none⟩ = some dv := by
  obtain ⟨r8, r9, r10, r11, _⟩ := k.rest
  exact ⟨k.num 0 _ rfl, k.num 1 _ rfl, k.num 2 _ rfl, k.num 3 _ rfl, k.num 4 _ rfl, k.num 5 _ rfl, k.num 6 _ rfl, k.num 7 _ rfl, r8, r9, r10, r11⟩
theorem gN_eq (l : List UInt8) : readNs 8 ⟨l, 0⟩ = gN l := by unfold gN; rfl
theorem gK_eq (l : List UInt8) : (gN l).1.getD 0 0 = gK l := by unfold gK; rfl
theorem gY_eq (l : List UInt8) : readN (gN l).2 = gY l := by unfold gY; rfl
theorem gC_eq (l : List UInt8) : readN (gY l).2 = gC l := by unfold gC; rfl
theorem gE_eq (l : List UInt8) : rdBs (gC l).1 (gC l).2 = gE l := by unfold gE; rfl
theorem gS_eq (l : List UInt8) : readB (gY l).2 = gS l := by unfold gS; rfl
theorem gD_eq (l : List UInt8) : readB (gS l).2 = gD l := by unfold gD; rfl
theorem gM_parts (l : List UInt8) (k : Nat) (hk : gK l = k) : (gM l).ents = (if k = 3 then (gE l).1.map entR else []) ∧ (gM l).srv = (if k = 5 then getL (gS l).1 else []) ∧ (gM l).data = (if k = 5 then (gD l).1 else []) ∧ gEnd l = (if k = 3 then (gE l).2 else if k = 5 then (gD l).2 else (gY l).2) := by
  subst hk
  unfold gM gEnd
  exact ⟨rfl, rfl, rfl, rfl⟩
theorem rdOk_eq (l : List UInt8) (k : Nat) (hk : gK l = k) : rdOk l = (decide ((gY l).1 ≤ 1) && (decide (k ≠ 3) || (gE l).1.all entOk) && (decide (k ≠ 5) || getOk (gS l).1) && decide (endE (gEnd l) = 0)) := by
  subst hk
  unfold rdOk
  rfl
theorem cells_gM2 (l : List UInt8) (nl : List Nat × St) (yp : Nat × St) (h1 : gN l = nl) (h2 : gY l = yp) (ev sv dv : Value) : msgCells (gM l) ev sv dv = msgCells (mOf nl.1 (decide (yp.1 = 1))) ev sv dv := by
  subst h1
  subst h2
  unfold gM mOf msgCells
  rfl

set_option maxRecDepth 100000 in
set_option maxHeartbeats 8000000 in
theorem read_any (v : Value) (l : List UInt8) (w : World) (h : Byt w v l) (hl : l.length ≤ 140737488355328)
    (hcap : gK l = 3 → ∀ k, k ≤ (gC l).1 → (∀ d ∈ (rdBs k (gC l).2).1, entOk d = true) → (k + 1) * 48 ≤ 140737488355328) :
    Calls Tryd.prog 33 #[v] w (ReadPost l w) := by
  have hv := h.len
  have HB := hid_mk h
  have HCAP := hid_mk hcap
  clear h hcap
  obtain ⟨av, cv, rfl⟩ := hv
  have HF : Hid (MB ((w.alloc (.cells zeroM 27)).alloc (.cells zeroM 27)) 27 (w.heap.size + 1) (mOf [] false) (.slice none 0 0) (.slice none 0 0) (.slice none 0 0) ∧ ((w.alloc (.cells zeroM 27)).alloc (.cells zeroM 27)).heap[w.heap.size]? = some (.cells zeroM 27 (0, 0)) ∧ w.grownBy ((w.alloc (.cells zeroM 27)).alloc (.cells zeroM 27)) none ∧ ((w.alloc (.cells zeroM 27)).alloc (.cells zeroM 27)).heap.size = w.heap.size + 2) := hid_mk (by
    have s1 : (w.alloc (.cells zeroM 27)).heap.size = w.heap.size + 1 := by simp
    have e1 : (w.alloc (.cells zeroM 27)).heap[w.heap.size]? = some (.cells zeroM 27 (0, 0)) := heap_alloc_new w _
    refine ⟨?_, ((World.grownBy_alloc _ _ none).block _ (by omega) (by simp)).trans e1, grown_trans (World.grownBy_alloc _ _ _) (World.grownBy_alloc _ _ _), by simp⟩
    unfold MB
    rw [← s1]
    exact heap_alloc_new _ _)
  unfold zeroM at HF
  go_enter Tryd.func33, Tryd.ntmps33
  go_wp2_with fail
  generalize ((w.alloc (.cells _ 27)).alloc (.cells _ 27)) = w0 at *
  refine (new_any _ l w0 (HB.out.kept HF.out.2.2.1) hl).mono ?_
  rintro e w1 ⟨rb, rfl, hr1, hg1⟩
  have H1 := hid_mk (And.intro hr1 hg1)
  clear hr1 hg1
  go_wp2_with fail
  refine (fields_any (w.heap.size + 1) w1).mono ?_
  rintro e w2 ⟨rfl, hg2⟩
  obtain ⟨M, hM⟩ : ∃ M, M = w0.heap.size := ⟨_, rfl⟩
  obtain ⟨N, hN⟩ : ∃ N, N = w1.heap.size := ⟨_, rfl⟩
  have H2 : Hid (RV w w2 (w.heap.size + 1) w.heap.size rb M N (mOf [] false) (.slice none 0 0) (.slice none 0 0) (.slice none 0 0) ⟨l, 0⟩) := hid_mk (by
    subst hM
    subst hN
    have hgr := grown_trans H1.out.2 hg2
    refine ⟨HF.out.1.kept hgr, H1.out.1.kept hg2 (fun r e => by cases e), (hgr.block _ (Array.getElem?_eq_some_iff.1 HF.out.2.1).1 (by simp)).trans HF.out.2.1, grown_trans HF.out.2.2.1 hgr, by omega, by omega, by rw [HF.out.2.2.2]; omega, by rw [HF.out.2.2.2]; omega, by omega, hg2.size⟩)
  clear hg2 hM hN HF H1
  go_wp2_with fail
  go_loopw [10] (fun iv W => ∃ k : Nat, k ≤ 8 ∧ iv = .int .i64 k ∧ Hid (RV w W (w.heap.size + 1) w.heap.size rb M N (mOf (readNs k ⟨l, 0⟩).1 false) (.slice none 0 0) (.slice none 0 0) (.slice none 0 0) (readNs k ⟨l, 0⟩).2)) (fun iv _ => 8 - (intOf iv).toNat)
  case atStart => exact ⟨0, Nat.zero_le _, rfl, H2⟩
  case round =>
    obtain ⟨k, hk, rfl, H⟩ := hrel
    rename World => w3
    by_cases hlt : k < 8
    · have hix := idx_fld (w.heap.size + 1) k hlt
      go_wp2_with fail
      refine (num_rd M N rb _ w3 H.out.rd (Nat.le_trans (readNs_rest k _) hl)).mono ?_
      rintro e w4 ⟨rfl, hr4, hg4⟩
      have H4 := hid_mk (H.out.turn hg4 hr4)
      have HS := hid_mk (readNs_succ k ⟨l, 0⟩)
      have HLEN := hid_mk (readNs_len k ⟨l, 0⟩)
      clear hr4 hg4 hix
      have hcell := H4.out.mb.num k _ (mOf_num _ _ k hlt)
      have hfz := H4.out.mb.rest.2.2.2.2 k
      obtain ⟨x, hx⟩ : ∃ x, x = (readN (readNs k ⟨l, 0⟩).2).1 := ⟨_, rfl⟩
      rw [← hx]
      have HX := hid_mk hx
      clear hx
      go_wp2_with fail
      go_roundw
      case rel =>
        refine ⟨k + 1, by omega, by go_num, hid_mk ?_⟩
        rw [HS.out, ← HX.out]
        exact H4.out.set k _ (H4.out.mb.setN k hlt HLEN.out x)
      case measure => simp [intOf]; omega
    · have hk8 : k = 8 := by omega
      subst hk8
      rw [gN_eq l] at H
      have HRN := hid_mk (show (gN l).2.rest.length ≤ 140737488355328 by rw [← gN_eq]; exact Nat.le_trans (readNs_rest 8 _) hl)
      obtain ⟨nl, hnl⟩ : ∃ nl, gN l = nl := ⟨_, rfl⟩
      obtain ⟨yp, hyp⟩ : ∃ yp, gY l = yp := ⟨_, rfl⟩
      obtain ⟨kk, hkk⟩ : ∃ kk, gK l = kk := ⟨_, rfl⟩
      have HRY := hid_mk (show readN nl.2 = yp by rw [← hnl, gY_eq, hyp])
      have HKN := hid_mk (show nl.1.getD 0 0 = kk by rw [← hnl, gK_eq, hkk])
      have HPA := hid_mk (gM_parts l kk hkk)
      have HOK := hid_mk (rdOk_eq l kk hkk)
      rw [hnl] at H HRN
      rw [hyp] at HOK HPA
      rw [hkk] at HCAP
      have HNL := hid_mk hnl
      have HYP := hid_mk hyp
      have HGC := hid_mk (show readN yp.2 = gC l by rw [← hyp, gC_eq])
      have HGS := hid_mk (show readB yp.2 = gS l by rw [← hyp, gS_eq])
      clear hnl hyp hkk hk hlt H2
      go_wp2_with fail
      refine (num_rd M N rb _ w3 H.out.rd HRN.out).mono ?_
      rintro e w4 ⟨rfl, hr4, hg4⟩
      rw [HRY.out] at hr4 ⊢
      have H4 := hid_mk (H.out.turn hg4 hr4)
      have HRL := hid_mk (show yp.2.rest.length ≤ 140737488355328 by rw [← HRY.out]; exact Nat.le_trans (readN_rest _) HRN.out)
      clear hr4 hg4 H
      go_wp2_with fail
      refine (asBool_any yp.1 w4).mono ?_
      rintro e wx ⟨hwx, hq⟩
      subst wx
      rcases hq with ⟨hy, rfl⟩ | ⟨hy, rfl⟩
      rotate_left
      · have HNO := hid_mk (show rdOk l = false by rw [HOK.out]; simp [hy])
        go_wp2_with fail
        exact ⟨rfl, H4.out.gr, .inr ⟨HNO.out, rfl⟩⟩
      have HY := hid_mk hy
      clear hy
      obtain ⟨r8, _, _, _, rf⟩ := H4.out.mb.rest
      have rf8 := rf 8
      clear rf
      obtain ⟨yb, hyb⟩ : ∃ yb, yb = decide (yp.1 = 1) := ⟨_, rfl⟩
      rw [← hyb]
      have HYB := hid_mk hyb
      clear hyb
      go_upto_region 9 with fail
      have H5 : Hid (RV w (w4.setCell ⟨w.heap.size + 1, 8, none⟩ (.bool yb)) (w.heap.size + 1) w.heap.size rb M N (mOf nl.1 yb) (.slice none 0 0) (.slice none 0 0) (.slice none 0 0) yp.2) := hid_mk (H4.out.set 8 _ (H4.out.mb.set8 yb))
      generalize w4.setCell ⟨w.heap.size + 1, 8, none⟩ (.bool yb) = w5 at *
      clear r8 rf8 H4
      have c0 := H5.out.mb.num 0 _ (mOf_num nl.1 yb 0 (by omega))
      rw [HKN.out] at c0
      by_cases k3 : kk = 3
      · have k3' : (kk : Int) = 3 := by omega
        have HM := hid_mk (show (gM l).ents = (gE l).1.map entR ∧ (gM l).srv = [] ∧ (gM l).data = [] by obtain ⟨q1, q2, q3, _⟩ := HPA.out; rw [q1, q2, q3]; simp [k3])
        have HC3 := hid_mk (HCAP.out k3)
        have HEE := hid_mk (show gEnd l = (gE l).2 by obtain ⟨_, _, _, q4⟩ := HPA.out; rw [q4]; simp [k3])
        go_wp2_with fail
        have HRE := hid_mk (readEntries_any M N rb yp.2 w5 H5.out.rd H5.out.lo.2.2.2.2.2 HRL.out (by rw [HGC.out]; exact HC3.out))
        unfold RePost at HRE
        rw [HGC.out, gE_eq] at HRE
        refine HRE.out.mono ?_
        rintro e w6 ⟨hg6, hq⟩
        rcases hq with ⟨hall, a6, n6, c6, es, rfl, heq6, hmap6, hrd6⟩ | ⟨hall, rfl⟩
        rotate_left
        · have HNO := hid_mk (show rdOk l = false by rw [HOK.out]; simp [k3, hall])
          have G6 := hid_mk (grown_new H5.out.gr hg6 (Nat.le_trans (Nat.le_trans H5.out.lo.2.1 (Nat.le_of_lt H5.out.lo.2.2.2.1)) H5.out.rd.lo))
          clear hg6 hall HRE
          go_wp2_with fail
          exact ⟨rfl, G6.out, .inr ⟨HNO.out, rfl⟩⟩
        have H6 := hid_mk (H5.out.turn hg6 hrd6)
        have Q6 := hid_mk (And.intro heq6 hmap6)
        have HALL := hid_mk hall
        have HB6 := hid_mk H5.out.gr.size
        clear hg6 heq6 hmap6 hrd6 hall HRE c0
        obtain ⟨sE, hsE⟩ : ∃ sE, (gE l).2 = sE := ⟨_, rfl⟩
        have HEND := hid_mk (HEE.out.trans hsE)
        rw [hsE] at H6
        clear hsE
        obtain ⟨_, r9, _, _, rf⟩ := H6.out.mb.rest
        have rf9 := rf 9
        clear rf
        go_upto_region 15 with fail
        have H7 := hid_mk (H6.out.set 9 (.slice a6 n6 c6) (H6.out.mb.set9 (.slice a6 n6 c6)))
        have Q7 := hid_mk (Q6.out.1.kept (grown_setCell w6 (w.heap.size + 1) 9 (.slice a6 n6 c6)) (fun r e => by cases e; exact ⟨_, _, _, H6.out.mb, by decide, by decide⟩))
        generalize w6.setCell ⟨w.heap.size + 1, 9, none⟩ (.slice a6 n6 c6) = w7 at *
        clear r9 rf9 H6
        go_wp2_with fail
        refine (end_rd M N rb _ w7 H7.out.rd).mono ?_
        rintro e wx ⟨rfl, hwx⟩
        subst wx
        obtain ⟨en, hen⟩ : ∃ en, en = endE sE := ⟨_, rfl⟩
        rw [← hen]
        by_cases he0 : en = 0
        rotate_left
        · have HNO := hid_mk (show rdOk l = false by rw [HOK.out, HEND.out, ← hen]; simp [he0])
          have he1 : ((en : Int) == 0) = false := by simp; omega
          clear hen
          go_wp2_with fail
          refine (need_no _).mono ?_
          rintro e wx ⟨rfl, hwx⟩
          subst wx
          go_wp2_with fail
          exact ⟨rfl, H7.out.gr, .inr ⟨HNO.out, rfl⟩⟩
        have HYES := hid_mk (show rdOk l = true by rw [HOK.out, HEND.out, ← hen, he0]; simp [HY.out, k3, HALL.out])
        clear hen
        subst he0
        obtain ⟨p0, p1, p2, p3, p4, p5, p6, p7, p8, p9, p10, p11⟩ := mb_all H7.out.mb
        have hz : ∀ i, w7.frozen? ⟨w.heap.size, i, none⟩ = false := fun i => by simp [World.frozen?, H7.out.zero]
        have hc : ∀ i, w7.cell? ⟨w.heap.size, i, none⟩ = zeroM[i]? := fun i => cell_of_row _ _ _ _ _ _ H7.out.zero
        have z0 := hc 0
        have z1 := hc 1
        have z2 := hc 2
        have z3 := hc 3
        have z4 := hc 4
        have z5 := hc 5
        have z6 := hc 6
        have z7 := hc 7
        have z8 := hc 8
        have z9 := hc 9
        have z10 := hc 10
        have z11 := hc 11
        clear hc
        simp only [zeroM, List.getElem?_toArray, List.getElem?_cons_zero, List.getElem?_cons_succ] at z0 z1 z2 z3 z4 z5 z6 z7 z8 z9 z10 z11
        obtain ⟨mm, hmm⟩ : ∃ mm, mm = mOf nl.1 yb := ⟨_, rfl⟩
        rw [← hmm] at p0 p1 p2 p3 p4 p5 p6 p7 p8
        have HMM := hid_mk hmm
        clear hmm
        go_wp2_with (go_at_call 44; refine (need_ok _).mono ?_; rintro e wx ⟨rfl, hwx⟩; subst wx)
        have HG2 := grown_msg w7 w.heap.size mm (.slice a6 n6 c6) (.slice none 0 0) (.slice none 0 0)
        have hb := msg_laid H7.out.zero mm (.slice a6 n6 c6) (.slice none 0 0) (.slice none 0 0)
        refine bodyPost_ret (ret_msg (fn := Tryd.f33) rfl _ _ w.heap.size mm _ _ _ rfl hb) rfl ⟨grown_new H7.out.gr HG2 (Nat.le_refl _), .inl ⟨HYES.out, _, _, _, es, by rw [cells_gM2 l nl yp HNL.out HYP.out, ← HYB.out, ← HMM.out], ?_, ?_, ?_⟩⟩
        · exact ⟨(Q7.out.kept HG2 (fun r e => by cases e; exact ⟨_, _, _, H7.out.zero, by decide, by decide⟩)).base HB6.out, by rw [HM.out.1, Q6.out.2]⟩
        · rw [HM.out.2.1]; exact OwnI.nil _ _
        · rw [HM.out.2.2]; exact World.ownsRow_nil _ _ _ _
      by_cases k5 : kk = 5
      · have b3 : ((kk : Int) == 3) = false := by simp; omega
        have b5 : ((kk : Int) == 5) = true := by simp; omega
        have HK := hid_mk k5
        have HM := hid_mk (show (gM l).ents = [] ∧ (gM l).srv = getL (gS l).1 ∧ (gM l).data = (gD l).1 by obtain ⟨q1, q2, q3, _⟩ := HPA.out; rw [q1, q2, q3]; simp [k3, k5])
        have HEE := hid_mk (show gEnd l = (gD l).2 by obtain ⟨_, _, _, q4⟩ := HPA.out; rw [q4]; simp [k5])
        clear HPA k3 k5
        go_wp2_with fail
        have HBR := hid_mk (byt_rd M N rb yp.2 w5 H5.out.rd H5.out.lo.2.2.2.2.2 HRL.out)
        have HSM := hid_mk (readB_small2 yp.2)
        have HSL := hid_mk (Nat.le_trans (readB_rest yp.2) HRL.out)
        rw [HGS.out] at HBR HSM HSL
        refine HBR.out.mono ?_
        rintro e w6 ⟨v6, rfl, ho6, hr6, hg6⟩
        have H6 := hid_mk (H5.out.turn hg6 hr6)
        have O6 := hid_mk ho6
        clear ho6 hr6 hg6 HBR c0
        obtain ⟨sp, hsp⟩ : ∃ sp, gS l = sp := ⟨_, rfl⟩
        have HGD := hid_mk (show readB sp.2 = gD l by rw [← hsp, gD_eq])
        rw [hsp] at H6 O6 HSM HSL HM HOK
        clear hsp HGS
        obtain ⟨a6, c6, rfl⟩ := O6.out.len
        go_wp2_with fail
        refine (getServers_any _ sp.1 w6 O6.out.byt (by have := HSM.out; omega)).mono ?_
        rintro e w7 ⟨a7, c7, rfl, ho7, hg7⟩
        have H7 := hid_mk (H6.out.kept hg7)
        cases hgo : getOk sp.1 with
        | false =>
          have HNO := hid_mk (show rdOk l = false by rw [HOK.out]; simp [HK.out, hgo])
          rw [(got_bad hgo).2]
          generalize (gotL sp.1).length = n7 at *
          clear ho7 hg7 hgo
          go_wp2_with fail
          refine (sureI_no _ 21 w7 (by omega)).mono ?_
          rintro e wx ⟨rfl, hwx⟩
          subst wx
          go_wp2_with fail
          exact ⟨rfl, H7.out.gr, .inr ⟨HNO.out, rfl⟩⟩
        | true =>
        have HGO := hid_mk hgo
        rw [(got_ok hgo).1] at ho7
        rw [(got_ok hgo).1, (got_ok hgo).2]
        have O7 := hid_mk ho7
        have HSZ6 := hid_mk H6.out.gr.size
        clear ho7 hg7 hgo H6 O6
        generalize (getL sp.1).length = n7 at *
        go_wp2_with fail
        refine (sureI_ok _ w7).mono ?_
        rintro e wx ⟨rfl, hwx⟩
        subst wx
        obtain ⟨_, _, r10, _, rf⟩ := H7.out.mb.rest
        have rf10 := rf 10
        clear rf
        go_upto_region 14 with fail
        have H8 := hid_mk (H7.out.set 10 (.slice a7 n7 c7) (H7.out.mb.set10 (.slice a7 n7 c7)))
        have O8 := hid_mk (owns_kept O7.out (grown_setCell w7 (w.heap.size + 1) 10 (.slice a7 n7 c7)) (fun _ _ hh => ne_tag hh H7.out.mb (by decide)))
        generalize w7.setCell ⟨w.heap.size + 1, 10, none⟩ (.slice a7 n7 c7) = w8 at *
        clear r10 rf10 H7 O7
        go_wp2_with fail
        have HBR := hid_mk (byt_rd M N rb sp.2 w8 H8.out.rd H8.out.lo.2.2.2.2.2 HSL.out)
        rw [HGD.out] at HBR
        refine HBR.out.mono ?_
        rintro e w10 ⟨v8, rfl, ho8, hr8, hg8⟩
        have H10 := hid_mk (H8.out.turn hg8 hr8)
        have HSZ8 := hid_mk H8.out.gr.size
        have O10 := hid_mk (owns_kept O8.out hg8 (fun _ _ hh => by obtain ⟨c, t, f, hb, h1, h2⟩ := H8.out.rd.tag; obtain ⟨_, _, rv, hb', _⟩ := H8.out.rd; exact ne_tag hh hb' (by decide)))
        have D10 := hid_mk ho8
        clear ho8 hr8 hg8 HBR
        obtain ⟨dp, hdp⟩ : ∃ dp, gD l = dp := ⟨_, rfl⟩
        rw [hdp] at H10 D10 HM HEE
        clear hdp HGD H8 O8
        obtain ⟨a8, c8, rfl⟩ := D10.out.len
        generalize dp.1.length = n8 at *
        obtain ⟨_, _, _, r11, rf⟩ := H10.out.mb.rest
        have rf11 := rf 11
        clear rf
        go_upto_region 15 with fail
        have H9 := hid_mk (H10.out.set 11 (.slice a8 n8 c8) (H10.out.mb.set11 (.slice a8 n8 c8)))
        have O9 := hid_mk (owns_kept O10.out (grown_setCell w10 (w.heap.size + 1) 11 (.slice a8 n8 c8)) (fun _ _ hh => ne_tag hh H10.out.mb (by decide)))
        have D9 := hid_mk (owns_kept D10.out (grown_setCell w10 (w.heap.size + 1) 11 (.slice a8 n8 c8)) (fun _ _ hh => ne_tag hh H10.out.mb (by decide)))
        generalize w10.setCell ⟨w.heap.size + 1, 11, none⟩ (.slice a8 n8 c8) = w9 at *
        clear r11 rf11 H10 O10 D10
        obtain ⟨sE, hsE⟩ : ∃ sE, dp.2 = sE := ⟨_, rfl⟩
        have HEND := hid_mk (HEE.out.trans hsE)
        rw [hsE] at H9
        clear hsE
        go_wp2_with fail
        refine (end_rd M N rb _ w9 H9.out.rd).mono ?_
        rintro e wx ⟨rfl, hwx⟩
        subst wx
        obtain ⟨en, hen⟩ : ∃ en, en = endE sE := ⟨_, rfl⟩
        rw [← hen]
        by_cases he0 : en = 0
        rotate_left
        · have HNO := hid_mk (show rdOk l = false by rw [HOK.out, HEND.out, ← hen]; simp [he0])
          have he1 : ((en : Int) == 0) = false := by simp; omega
          clear hen
          go_wp2_with fail
          refine (need_no _).mono ?_
          rintro e wx ⟨rfl, hwx⟩
          subst wx
          go_wp2_with fail
          exact ⟨rfl, H9.out.gr, .inr ⟨HNO.out, rfl⟩⟩
        have HYES := hid_mk (show rdOk l = true by rw [HOK.out, HEND.out, ← hen, he0]; simp [HY.out, HK.out, HGO.out])
        clear hen
        subst he0
        obtain ⟨p0, p1, p2, p3, p4, p5, p6, p7, p8, p9, p10, p11⟩ := mb_all H9.out.mb
        have hz : ∀ i, w9.frozen? ⟨w.heap.size, i, none⟩ = false := fun i => by simp [World.frozen?, H9.out.zero]
        have hc : ∀ i, w9.cell? ⟨w.heap.size, i, none⟩ = zeroM[i]? := fun i => cell_of_row _ _ _ _ _ _ H9.out.zero
        have z0 := hc 0
        have z1 := hc 1
        have z2 := hc 2
        have z3 := hc 3
        have z4 := hc 4
        have z5 := hc 5
        have z6 := hc 6
        have z7 := hc 7
        have z8 := hc 8
        have z9 := hc 9
        have z10 := hc 10
        have z11 := hc 11
        clear hc
        simp only [zeroM, List.getElem?_toArray, List.getElem?_cons_zero, List.getElem?_cons_succ] at z0 z1 z2 z3 z4 z5 z6 z7 z8 z9 z10 z11
        obtain ⟨mm, hmm⟩ : ∃ mm, mm = mOf nl.1 yb := ⟨_, rfl⟩
        rw [← hmm] at p0 p1 p2 p3 p4 p5 p6 p7 p8
        have HMM := hid_mk hmm
        clear hmm
        go_wp2_with (go_at_call 44; refine (need_ok _).mono ?_; rintro e wx ⟨rfl, hwx⟩; subst wx)
        have HG2 := grown_msg w9 w.heap.size mm (.slice none 0 0) (.slice a7 n7 c7) (.slice a8 n8 c8)
        have hb := msg_laid H9.out.zero mm (.slice none 0 0) (.slice a7 n7 c7) (.slice a8 n8 c8)
        refine bodyPost_ret (ret_msg (fn := Tryd.f33) rfl _ _ w.heap.size mm _ _ _ rfl hb) rfl ⟨grown_new H9.out.gr HG2 (Nat.le_refl _), .inl ⟨HYES.out, _, _, _, [], by rw [cells_gM2 l nl yp HNL.out HYP.out, ← HYB.out, ← HMM.out], ?_, ?_, ?_⟩⟩
        · exact ⟨EQ.nil _ _, by rw [HM.out.1]; rfl⟩
        · rw [HM.out.2.1]; exact OwnI.base (owns_kept O9.out HG2 (fun _ _ hh => ne_tag hh H9.out.zero (by decide))) HSZ6.out
        · rw [HM.out.2.2]; exact Own.base (owns_kept D9.out HG2 (fun _ _ hh => ne_tag hh H9.out.zero (by decide))) HSZ8.out
      · have b3 : ((kk : Int) == 3) = false := by simp; omega
        have b5 : ((kk : Int) == 5) = false := by simp; omega
        have HK := hid_mk (And.intro k3 k5)
        have HM := hid_mk (show (gM l).ents = [] ∧ (gM l).srv = [] ∧ (gM l).data = [] by obtain ⟨q1, q2, q3, _⟩ := HPA.out; rw [q1, q2, q3]; simp [k3, k5])
        obtain ⟨sE, hsE⟩ : ∃ sE, yp.2 = sE := ⟨_, rfl⟩
        have HEND := hid_mk (show gEnd l = sE by obtain ⟨_, _, _, q4⟩ := HPA.out; rw [q4, ← hsE]; simp [k3, k5])
        rw [hsE] at H5
        clear hsE HPA k3 k5
        go_wp2_with fail
        clear c0
        refine (end_rd M N rb _ w5 H5.out.rd).mono ?_
        rintro e wx ⟨rfl, hwx⟩
        subst wx
        obtain ⟨en, hen⟩ : ∃ en, en = endE sE := ⟨_, rfl⟩
        rw [← hen]
        by_cases he0 : en = 0
        rotate_left
        · have HNO := hid_mk (show rdOk l = false by rw [HOK.out, HEND.out, ← hen]; simp [he0])
          have he1 : ((en : Int) == 0) = false := by simp; omega
          clear hen
          go_wp2_with fail
          refine (need_no _).mono ?_
          rintro e wx ⟨rfl, hwx⟩
          subst wx
          go_wp2_with fail
          exact ⟨rfl, H5.out.gr, .inr ⟨HNO.out, rfl⟩⟩
        have HYES := hid_mk (show rdOk l = true by rw [HOK.out, HEND.out, ← hen, he0]; simp [HY.out, HK.out.1, HK.out.2])
        clear hen
        subst he0
        obtain ⟨p0, p1, p2, p3, p4, p5, p6, p7, p8, p9, p10, p11⟩ := mb_all H5.out.mb
        have hz : ∀ i, w5.frozen? ⟨w.heap.size, i, none⟩ = false := fun i => by simp [World.frozen?, H5.out.zero]
        have hc : ∀ i, w5.cell? ⟨w.heap.size, i, none⟩ = zeroM[i]? := fun i => cell_of_row _ _ _ _ _ _ H5.out.zero
        have z0 := hc 0
        have z1 := hc 1
        have z2 := hc 2
        have z3 := hc 3
        have z4 := hc 4
        have z5 := hc 5
        have z6 := hc 6
        have z7 := hc 7
        have z8 := hc 8
        have z9 := hc 9
        have z10 := hc 10
        have z11 := hc 11
        clear hc
        simp only [zeroM, List.getElem?_toArray, List.getElem?_cons_zero, List.getElem?_cons_succ] at z0 z1 z2 z3 z4 z5 z6 z7 z8 z9 z10 z11
        obtain ⟨mm, hmm⟩ : ∃ mm, mm = mOf nl.1 yb := ⟨_, rfl⟩
        rw [← hmm] at p0 p1 p2 p3 p4 p5 p6 p7 p8
        have HMM := hid_mk hmm
        clear hmm
        go_wp2_with (go_at_call 44; refine (need_ok _).mono ?_; rintro e wx ⟨rfl, hwx⟩; subst wx)
        have HG2 := grown_msg w5 w.heap.size mm (.slice none 0 0) (.slice none 0 0) (.slice none 0 0)
        have hb := msg_laid H5.out.zero mm (.slice none 0 0) (.slice none 0 0) (.slice none 0 0)
        refine bodyPost_ret (ret_msg (fn := Tryd.f33) rfl _ _ w.heap.size mm _ _ _ rfl hb) rfl ⟨grown_new H5.out.gr HG2 (Nat.le_refl _), .inl ⟨HYES.out, _, _, _, [], by rw [cells_gM2 l nl yp HNL.out HYP.out, ← HYB.out, ← HMM.out], ?_, ?_, ?_⟩⟩
        · exact ⟨EQ.nil _ _, by rw [HM.out.1]; rfl⟩
        · rw [HM.out.2.1]; exact OwnI.nil _ _
        · rw [HM.out.2.2]; exact World.ownsRow_nil _ _ _ _

end Go.Proofs.YtliefofdlpljaaaDoor
