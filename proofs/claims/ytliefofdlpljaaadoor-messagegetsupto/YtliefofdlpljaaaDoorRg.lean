/- The document's Get. -/
import Derived.Test.YtliefofdlpljaaaDoorRg0
namespace Go.Proofs.YtliefofdlpljaaaDoor
open Go.RowKit Go.Maps
set_option linter.unusedVariables false
set_option linter.unusedSimpArgs false

theorem dec_one (n : Nat) : decide (n = 1) = ((n : Int) == 1) := by
  by_cases h : n = 1
  · subst h; rfl
  · rw [decide_eq_false h]; symm; rw [beq_eq_false_iff_ne]; omega
theorem dec_le (n : Nat) : decide (n ≤ 1) = decide ((n : Int) ≤ 1) := by
  by_cases h : n ≤ 1
  · rw [decide_eq_true h, decide_eq_true (by omega)]
  · rw [decide_eq_false h, decide_eq_false (by omega)]
theorem Rr.tag {w : World} {M N b : Nat} {s : St} (h : Rr w M N b s) : ∃ c f, w.heap[b]? = some (.cells c 99 f) := by
  obtain ⟨bv, B, k, hx, _⟩ := h.open
  exact ⟨_, _, hx.blk⟩
theorem gotE_zero (d : List UInt8) : getOk d = ((gotE d : Int) == 0) := by
  cases h : getOk d with
  | true => rw [(got_ok h).2]; rfl
  | false => rw [(got_bad h).2]; rfl
theorem gErr_zero (d : List UInt8) : entOk d = ((gErr d : Int) == 0) := by
  cases h : entOk d with
  | true => rw [(gEnt_ok h).2]; rfl
  | false => rw [(gEnt_bad h).2]; rfl
theorem gEnt_small (d : List UInt8) : (gEnt d).data.length ≤ 1048576 := by
  cases h : entOk d with
  | false => rw [(gEnt_bad h).1]; simp
  | true =>
    rw [(gEnt_ok h).1]
    have := (rightE_len (entOk_get h).1).2.2.2
    omega
theorem ho7_len {w : World} {B : Nat} {v : Value} {d : List UInt8} (h : OwnI w B v (gotL d)) : (gotL d).length ≤ 140737488355328 := by
  cases hd : getOk d with
  | false => rw [(got_bad hd).1]; simp
  | true =>
    rw [(got_ok hd).1]
    have := (rightS_mem (getOk_get hd).1).2.1
    omega
theorem ne_of_beq_false {a b : Int} (h : (a == b) = false) : ¬ a = b := by simpa using h

set_option maxRecDepth 100000 in
set_option maxHeartbeats 8000000 in
theorem rgetM_any (v : Value) (l : List UInt8) (w : World) (h : Byt w v l) (hl : l.length ≤ 140737488355328) : Calls Tryd.prog 17 #[v] w (GetPost l w) := by
  obtain ⟨av, cv, rfl⟩ := h.len
  have HB := hid_mk h
  clear h
  have HZ0 : Hid ((w.alloc (.cells zeroM 26)).heap[w.heap.size]? = some (.cells zeroM 26 (0, 0)) ∧ w.grownBy (w.alloc (.cells zeroM 26)) none) := hid_mk ⟨heap_alloc_new _ _, World.grownBy_alloc _ _ _⟩
  unfold zeroM at HZ0
  go_enter Tryd.func17, Tryd.ntmps17
  go_wp2_with fail
  generalize w.alloc (.cells _ 26) = w1 at *
  refine (rnew_any _ l w1 (HB.out.kept HZ0.out.2) hl).mono ?_
  rintro e w2 ⟨b, rfl, hr2, hg2⟩
  have HM := hid_mk (show w.heap.size < w1.heap.size from (Array.getElem?_eq_some_iff.1 HZ0.out.1).1)
  generalize hM : w1.heap.size = M at *
  generalize hN : w2.heap.size = N at *
  have HA : Hid (GR w (w2.alloc (.cells #[.int .i64 0, .int .i64 0, .int .i64 0, .int .i64 0, .int .i64 0, .int .i64 0, .int .i64 0, .int .i64 0, .int .i64 0] 63)) M N b N 63 [] ⟨l, 0⟩) := hid_mk (by
    have hg := World.grownBy_alloc w2 (.cells (arrV []) 63) none
    have hnew := heap_alloc_new w2 (.cells (arrV []) 63)
    rw [hN] at hnew
    exact ⟨hr2.kept hg (fun r e => by cases e), (hg.block _ (by have := hg2.size; have := HM.out; omega) (by simp)).trans ((hg2.block _ (by have := HM.out; omega) (by simp)).trans HZ0.out.1), hnew, grown_trans HZ0.out.2 (grown_trans hg2 hg), HM.out, Nat.le_refl _, by have := hg.size; rw [hN] at this; exact this⟩)
  clear hr2 hg2 HZ0
  go_upto_region 3 with fail
  generalize (w2.alloc (.cells _ 63)) = w3 at *
  clear hM hN HB
  go_wp2_with fail
  go_loopw [6] (fun iv W => ∃ k : Nat, k ≤ 9 ∧ iv = .int .i64 k ∧ Hid (GR w W M N b N 63 (readNs k ⟨l, 0⟩).1 (readNs k ⟨l, 0⟩).2)) (fun iv _ => 9 - (intOf iv).toNat)
  case atStart => exact ⟨0, Nat.zero_le _, rfl, HA⟩
  case round =>
    clear HA
    obtain ⟨k, hk, rfl, H⟩ := hrel
    rename World => w4
    by_cases hlt : k < 9
    · have HS := hid_mk (readNs_succ k ⟨l, 0⟩)
      have HL := hid_mk (readNs_len k ⟨l, 0⟩)
      generalize readNs k ⟨l, 0⟩ = q0 at *
      go_wp2_with fail
      refine (rnum_any M N b q0.2 w4 H.out.rr).mono ?_
      rintro e w5 ⟨rfl, hr5, hg5, _⟩
      have H5 := hid_mk (H.out.turn hg5 hr5)
      clear hr5 hg5 H
      generalize readN q0.2 = q2 at *
      obtain ⟨c5, f5⟩ := arr_there H5.out.arr k hlt
      have H6 := hid_mk (H5.out.set k hlt HL.out q2.1)
      go_upto_region 5 with fail
      generalize w5.setCell ⟨N, k, none⟩ (.int .i64 q2.1) = w6 at *
      clear c5 f5 H5
      go_wp2_with fail
      go_roundw
      case rel =>
        refine ⟨k + 1, by omega, by go_num, hid_mk ?_⟩
        rw [HS.out]
        exact H6.out
      case measure => simp [intOf]; omega
    · obtain rfl : k = 9 := by omega
      have hq : readNs 9 ⟨l, 0⟩ = ((gN l).1 ++ [(gY l).1], (gY l).2) := by rw [readNs_succ, gN_eq, gY_eq]
      rw [hq] at H
      clear hq
      have hlen : (gN l).1.length = 8 := by rw [← gN_eq]; exact readNs_len 8 _
      obtain ⟨nl, hnl⟩ : ∃ nl, gN l = nl := ⟨_, rfl⟩
      obtain ⟨yp, hyp⟩ : ∃ yp, gY l = yp := ⟨_, rfl⟩
      obtain ⟨yb, hyb⟩ : ∃ yb : Bool, ((yp.1 : Int) == 1) = yb := ⟨_, rfl⟩
      obtain ⟨ob, hob⟩ : ∃ ob : Bool, decide ((yp.1 : Int) ≤ 1) = ob := ⟨_, rfl⟩
      obtain ⟨x0, hx0⟩ : ∃ x : Nat, nl.1.getD 0 0 = x := ⟨_, rfl⟩
      obtain ⟨x1, hx1⟩ : ∃ x : Nat, nl.1.getD 1 0 = x := ⟨_, rfl⟩
      obtain ⟨x2, hx2⟩ : ∃ x : Nat, nl.1.getD 2 0 = x := ⟨_, rfl⟩
      obtain ⟨x3, hx3⟩ : ∃ x : Nat, nl.1.getD 3 0 = x := ⟨_, rfl⟩
      obtain ⟨x4, hx4⟩ : ∃ x : Nat, nl.1.getD 4 0 = x := ⟨_, rfl⟩
      obtain ⟨x5, hx5⟩ : ∃ x : Nat, nl.1.getD 5 0 = x := ⟨_, rfl⟩
      obtain ⟨x6, hx6⟩ : ∃ x : Nat, nl.1.getD 6 0 = x := ⟨_, rfl⟩
      obtain ⟨x7, hx7⟩ : ∃ x : Nat, nl.1.getD 7 0 = x := ⟨_, rfl⟩
      rw [hnl, hyp] at H
      rw [hnl] at hlen
      have HLN := hid_mk hlen
      have HEQ := hid_mk (And.intro hnl (And.intro hyp (And.intro hyb (And.intro hob (And.intro (show mOf nl.1 yb = ⟨x0, x1, x2, x3, x4, x5, x6, x7, yb, [], [], []⟩ by unfold mOf; rw [hx0, hx1, hx2, hx3, hx4, hx5, hx6, hx7]) (show gK l = x0 by rw [← gK_eq, hnl]; exact hx0))))))
      obtain ⟨c0, _⟩ := arr_there H.out.arr 0 (by omega)
      obtain ⟨c1, _⟩ := arr_there H.out.arr 1 (by omega)
      obtain ⟨c2, _⟩ := arr_there H.out.arr 2 (by omega)
      obtain ⟨c3, _⟩ := arr_there H.out.arr 3 (by omega)
      obtain ⟨c4, _⟩ := arr_there H.out.arr 4 (by omega)
      obtain ⟨c5, _⟩ := arr_there H.out.arr 5 (by omega)
      obtain ⟨c6, _⟩ := arr_there H.out.arr 6 (by omega)
      obtain ⟨c7, _⟩ := arr_there H.out.arr 7 (by omega)
      obtain ⟨c8, _⟩ := arr_there H.out.arr 8 (by omega)
      rw [getD_snoc _ _ _ hlen] at c0 c1 c2 c3 c4 c5 c6 c7 c8
      simp only [Nat.reduceLT, Nat.reduceEqDiff, if_true, if_false, reduceIte, Nat.lt_irrefl, hx0, hx1, hx2, hx3, hx4, hx5, hx6, hx7] at c0 c1 c2 c3 c4 c5 c6 c7 c8
      clear hnl hyp hlen hk hlt hx0 hx1 hx2 hx3 hx4 hx5 hx6 hx7
      have HG : Hid (GM w (w4.alloc (.cells #[.int .i64 x0, .int .i64 x1, .int .i64 x2, .int .i64 x3, .int .i64 x4, .int .i64 x5, .int .i64 x6, .int .i64 x7, .bool yb, .slice none 0 0, .slice none 0 0, .slice none 0 0] 26)) M N b w4.heap.size ⟨x0, x1, x2, x3, x4, x5, x6, x7, yb, [], [], []⟩ (.slice none 0 0) (.slice none 0 0) (.slice none 0 0) yp.2 ∧ (w4.alloc (.cells #[.int .i64 x0, .int .i64 x1, .int .i64 x2, .int .i64 x3, .int .i64 x4, .int .i64 x5, .int .i64 x6, .int .i64 x7, .bool yb, .slice none 0 0, .slice none 0 0, .slice none 0 0] 26)).cell? ⟨N, 8, none⟩ = some (.int .i64 yp.1)) := hid_mk (by
        have hg := World.grownBy_alloc w4 (.cells #[.int .i64 x0, .int .i64 x1, .int .i64 x2, .int .i64 x3, .int .i64 x4, .int .i64 x5, .int .i64 x6, .int .i64 x7, .bool yb, .slice none 0 0, .slice none 0 0, .slice none 0 0] 26) none
        obtain ⟨h1, h2, h3⟩ := H.out.lo
        exact ⟨⟨H.out.rr.kept hg (fun r e => by cases e), (hg.block _ (Array.getElem?_eq_some_iff.1 H.out.zero).1 (by simp)).trans H.out.zero, heap_alloc_new _ _, grown_trans H.out.gr hg, h1, h3, Nat.le_trans h3 hg.size⟩, hg.cell c8 (by simp)⟩)
      go_upto_region 8 with fail
      generalize (w4.alloc (.cells _ 26)) = w5 at *
      generalize w4.heap.size = gm at *
      clear c0 c1 c2 c3 c4 c5 c6 c7 c8 H
      have c8 := HG.out.2
      have q0 := HG.out.1.mb.num 0 _ rfl
      have HG := hid_mk HG.out.1
      go_upto_region 9 with fail
      clear c8 hyb hob
      cases h3 : ((x0 : Int) == 3) with
      | true =>
        have HREF := hid_mk (fun n s1 hn hs k hk he => ref_three (l := l) (by have := eq_of_beq h3; have := HEQ.out.2.2.2.2.2; omega) n s1 hn hs k hk he)
        have HCP := hid_mk (gC_eq l)
        rw [HEQ.out.2.1] at HCP
        rw [HEQ.out.1, HEQ.out.2.1] at HREF
        rw [show decide (yp.1 = 1) = yb by rw [← HEQ.out.2.2.1]; exact dec_one _, show decide (yp.1 ≤ 1) = ob by rw [← HEQ.out.2.2.2.1]; exact dec_le _, HEQ.out.2.2.2.2.1] at HREF
        obtain ⟨cp, hcp⟩ : ∃ cp, gC l = cp := ⟨_, rfl⟩
        rw [hcp] at HCP HREF
        obtain ⟨n, s1⟩ := cp
        have HREF := hid_mk (fun k hk he => HREF.out n s1 rfl rfl k hk he)
        have hn48 : n < 281474976710656 := by have := readN_lt yp.2; rw [HCP.out] at this; exact this
        clear hcp
        go_wp2_with fail
        refine (rnum_any M N b yp.2 w5 HG.out.rr).mono ?_
        rintro e w6 ⟨rfl, hr6, hg6, _⟩
        rw [HCP.out] at hr6
        rw [HCP.out]
        have H6 := hid_mk (HG.out.turn hg6 hr6)
        clear hr6 hg6 HG q0
        go_wp2_with fail
        go_loopw [8, 10] (fun okv iv W => ∃ (k : Nat) (a : Option Addr) (c : Nat) (okk : Bool), k ≤ n ∧ k ≤ 9 ∧ okv = .bool okk ∧ iv = .int .i64 k ∧ Hid (∃ es, GM w W M N b gm ⟨x0, x1, x2, x3, x4, x5, x6, x7, yb, [], [], []⟩ (.slice a k c) (.slice none 0 0) (.slice none 0 0) (rdBs k s1).2 ∧ EQ N W (.slice a k c) es ∧ es.map (·.1) = (rdBs k s1).1.map gEnt ∧ okk = (ob && (rdBs k s1).1.all entOk))) (fun _ iv _ => 9 - (intOf iv).toNat)
        case atStart => exact ⟨0, none, 0, ob, Nat.zero_le _, Nat.zero_le _, rfl, rfl, hid_mk ⟨[], H6.out, EQ.nil _ _, rfl, by simp [rdBs]⟩⟩
        case round =>
          clear H6
          obtain ⟨k, a, c, okk, hk, hk9, rfl, rfl, H⟩ := hrel
          rename World => w7
          obtain ⟨es, hH⟩ := H.out
          have HE := hid_mk hH
          clear hH H
          have HKE := hid_mk (show k = es.length by
            have := congrArg List.length HE.out.2.2.1
            rw [List.length_map, List.length_map, rdBs_len] at this
            omega)
          by_cases hgo : k < n ∧ k < 9
          · obtain ⟨hlt, hlt9⟩ := hgo
            have hle8 : k ≤ 8 := by omega
            go_wp2_with fail
            refine (rbyt_any M N b _ w7 HE.out.1.rr HE.out.1.lo.2.2).mono ?_
            rintro e w8 ⟨v8, rfl, ho8, hr8, hg8⟩
            have HS := hid_mk (rdBs_succ k s1)
            have H8 := hid_mk (And.intro (HE.out.1.turn hg8 hr8) (And.intro ho8 (HE.out.2.1.kept hg8 (fun r e => by cases e; obtain ⟨c, f, ht⟩ := HE.out.1.rr.tag; exact ⟨_, _, _, ht, by decide, by decide⟩))))
            have hb8 := readB_small2 (rdBs k s1).2
            obtain ⟨dp, hdp⟩ : ∃ dp, readB (rdBs k s1).2 = dp := ⟨_, rfl⟩
            rw [hdp] at H8 HS hb8
            obtain ⟨a8, n8, c8, e8⟩ : ∃ a n c, v8 = .slice a n c := by
              obtain ⟨a, c, e⟩ := ho8.len
              exact ⟨a, _, c, e⟩
            clear ho8 hr8 hg8 hdp
            subst e8
            go_wp2_with fail
            refine (rgetEntry_any _ dp.1 w8 H8.out.2.1.byt (by omega)).mono ?_
            rintro e w9 ⟨dv9, rfl, ho9, hg9⟩
            obtain ⟨a9, n9, c9, e9⟩ : ∃ a n c, dv9 = .slice a n c := by
              obtain ⟨a, c, e⟩ := ho9.len
              exact ⟨a, _, c, e⟩
            subst e9
            have H9 := hid_mk (And.intro (H8.out.1.kept hg9) (And.intro (ho9.base (B' := N) H8.out.1.lo.2.2) (H8.out.2.2.kept hg9 (fun r e => by cases e))))
            have HXL := hid_mk (gEnt_small dp.1)
            obtain ⟨x, hx⟩ : ∃ x, gEnt dp.1 = x := ⟨_, rfl⟩
            obtain ⟨er, her⟩ : ∃ er, gErr dp.1 = er := ⟨_, rfl⟩
            obtain ⟨eb, heb⟩ : ∃ eb : Bool, ((er : Int) == 0) = eb := ⟨_, rfl⟩
            have HEB := hid_mk (And.intro (show entOk dp.1 = eb by rw [← heb, ← her]; exact gErr_zero _) hx)
            rw [hx] at H9 HXL ⊢
            rw [her]
            clear ho9 hg9 H8 hx her
            unfold entV
            have HA : Hid (EB (w9.alloc (.cells #[.int .i64 x.term, .int .i64 x.index, .int .i64 x.kind, .slice a9 n9 c9] 47)) w9.heap.size x (.slice a9 n9 c9) ∧ w9.grownBy (w9.alloc (.cells #[.int .i64 x.term, .int .i64 x.index, .int .i64 x.kind, .slice a9 n9 c9] 47)) none) := hid_mk ⟨heap_alloc_new _ _, World.grownBy_alloc _ _ _⟩
            go_upto_region 15 with fail
            generalize (w9.alloc (.cells _ 47)) = wa at *
            generalize w9.heap.size = gx at *
            have HF := hid_mk (And.intro (H9.out.1.kept HA.out.2) (And.intro (H9.out.2.1.kept HA.out.2 (.inl rfl)) (H9.out.2.2.kept HA.out.2 (fun r e => by cases e))))
            have HX := hid_mk HA.out.1
            clear H9 HA
            have hcap : (k + 1) * 48 ≤ 140737488355328 := by omega
            obtain ⟨ok2, hok2⟩ : ∃ ok2 : Bool, ok2 = (okk && eb) := ⟨_, rfl⟩
            have HOK2 := hid_mk hok2
            go_cut [8] (fun ov W => ov = .bool ok2 ∧ W = wa)
            case first =>
              cases okk with
              | false =>
                obtain rfl : ok2 = false := hok2
                go_wp2_with fail
                go_meet
                case rel => exact ⟨rfl, rfl⟩
              | true =>
                obtain rfl : ok2 = eb := by rw [hok2]; rfl
                clear hok2
                go_wp2_with fail
                go_meet
                case rel => exact ⟨rfl, rfl⟩
            case rest =>
              obtain ⟨hov, hww⟩ := hcut
              subst hov
              subst hww
              rename World => wa
              clear hok2 heb
              obtain ⟨e0, e1, e2, e3, _⟩ := HX.out.cells
              obtain ⟨_, r9, _, _, _⟩ := HF.out.1.mb.rest
              go_upto_region 13 with (at_builtin; refine wp_ent HF.out.2.2 HF.out.1.lo.2.2 x a9 n9 c9 HF.out.2.1 (by have := HXL.out; omega) k HKE.out hcap rfl (.tmp 74) (.tmp 76) rfl rfl rfl ?_; intro a6 c6 wb P6; have G6 := hid_mk ((HF.out.1.kept (World.grownBy_alloc wa (.cells #[.int .i64 x.term, .int .i64 x.index, .int .i64 x.kind, .slice a9 n9 c9] 47) none)).row (HF.out.2.2.kept (World.grownBy_alloc wa (.cells #[.int .i64 x.term, .int .i64 x.index, .int .i64 x.kind, .slice a9 n9 c9] 47) none) (fun r e => by cases e)) P6.out.2); obtain ⟨_, s9, _, _, sz⟩ := G6.out.mb.rest; have sz9 := sz 9; clear sz)
              have G7 := hid_mk (And.intro (G6.out.set 9 (.slice a6 (k + 1) c6) (G6.out.mb.set9 _)) (P6.out.1.kept (grown_setCell wb gm 9 (.slice a6 (k + 1) c6)) (fun r e => by cases e; exact ⟨_, _, _, G6.out.mb, by decide, by decide⟩)))
              generalize wb.setCell ⟨gm, 9, none⟩ (.slice a6 (k + 1) c6) = wc at *
              clear s9 sz9 e0 e1 e2 e3 r9
              go_wp2_with fail
              go_roundw
              case rel =>
                refine ⟨k + 1, a6, c6, ok2, by omega, by omega, rfl, by go_num, hid_mk ⟨_, ?_, G7.out.2, ?_, ?_⟩⟩
                · rw [HS.out]; exact G7.out.1
                · rw [HS.out, List.map_append, List.map_append, HE.out.2.2.1, ← HEB.out.2]; rfl
                · rw [HS.out, HOK2.out, HE.out.2.2.2, List.all_append, ← HEB.out.1]; simp [Bool.and_assoc]
              case measure => simp [intOf]; omega
          · have HR := hid_mk (HREF.out k hk (by omega))
            obtain ⟨m', hm'⟩ : ∃ m' : Msg, m' = { (⟨x0, x1, x2, x3, x4, x5, x6, x7, yb, [], [], []⟩ : Msg) with ents := (rdBs k s1).1.map gEnt } := ⟨_, rfl⟩
            obtain ⟨en, hen0⟩ : ∃ en, endE (rdBs k s1).2 = en := ⟨_, rfl⟩
            have HEN := hid_mk hen0
            rw [← hm', hen0, ← HE.out.2.2.2] at HR
            have HCM := hid_mk (show ∀ ev sv dv, msgCells m' ev sv dv = msgCells ⟨x0, x1, x2, x3, x4, x5, x6, x7, yb, [], [], []⟩ ev sv dv from fun _ _ _ => by rw [hm']; rfl)
            have HG := hid_mk HE.out.1
            have HRD := hid_mk (show (EQ N w7 (.slice a k c) es ∧ es.map (·.1) = m'.ents) ∧ OwnI w7 N (.slice none 0 0) m'.srv ∧ Own w7 N (.slice none 0 0) m'.data from ⟨⟨HE.out.2.1, by rw [hm']; exact HE.out.2.2.1⟩, by rw [hm']; exact OwnI.nil _ _, by rw [hm']; exact World.ownsRow_nil _ _ _ _⟩)
            have HBN := hid_mk (show m'.ents.length ≤ 140737488355328 ∧ m'.srv.length ≤ 140737488355328 from ⟨by rw [hm']; show ((rdBs k s1).1.map gEnt).length ≤ _; rw [List.length_map, rdBs_len]; omega, by rw [hm']; simp⟩)
            have q0 := HG.out.mb.num 0 _ rfl
            clear hm' hen0 HE HREF
            have HREF := HR
            clear HR
            by_cases hlt : k < n
            · have h8 : ¬ k ≤ 8 := by omega
              go_upto_region 22 with fail
              cases okk with
              | false =>
                have HBAD := hid_mk (gotM_bad (l := l) (by cases hg : gOk l with | false => rfl | true => exact absurd (HREF.out.1.2 hg).1 (by simp)))
                have HZ := hid_mk HG.out.zero
                have hz : ∀ i, (w7).frozen? ⟨w.heap.size, i, none⟩ = false := fun i => by have hb := HZ.out; simp [World.frozen?, hb]
                have hc : ∀ i, (w7).cell? ⟨w.heap.size, i, none⟩ = zeroM[i]? := fun i => cell_of_row _ _ _ _ _ _ HZ.out
                have z0 := hc 0
                have z1 := hc 1
                have z2 := hc 2
                have z3 := hc 3
                have z4 := hc 4
                have z5 := hc 5
                have z6 := hc 6
                have z7 := hc 7
                have z8 := hc 8
                have z9 := hc 9
                have z10 := hc 10
                have z11 := hc 11
                clear hc
                simp only [zeroM, List.getElem?_toArray, List.getElem?_cons_zero, List.getElem?_cons_succ] at z0 z1 z2 z3 z4 z5 z6 z7 z8 z9 z10 z11
                go_wp2_with fail
                refine bodyPost_ret (ret_msg2 (fn := Tryd.f17) rfl _ _ w.heap.size noM (.slice none 0 0) (.slice none 0 0) (.slice none 0 0) rfl (msg_laid HZ.out noM _ _ _)) rfl ⟨.slice none 0 0, .slice none 0 0, .slice none 0 0, by rw [HBAD.out.1, HBAD.out.2]; rfl, ⟨by rw [HBAD.out.1]; exact EntsR.nil _, by rw [HBAD.out.1]; exact IntsR.nil _, by rw [HBAD.out.1]; exact Byt.nil _⟩, ?_⟩
                exact grown_new HG.out.gr (grown_msg _ w.heap.size noM (.slice none 0 0) (.slice none 0 0) (.slice none 0 0)) (Nat.le_refl _)
              | true =>
                go_wp2_with fail
                refine (rend_any M N b _ w7 HG.out.rr).mono ?_
                rintro e wx ⟨rfl, me, rfl⟩
                rw [HEN.out]
                have G0 := hid_mk (HG.out.kept (drawn w7 me))
                have GQ := hid_mk (drawn w7 me)
                generalize w7.drewN me = wq at *
                cases hen : ((en : Int) == 0) with
                | false =>
                  have HBAD := hid_mk (gotM_bad (l := l) (by cases hg : gOk l with | false => rfl | true => exact absurd (HREF.out.1.2 hg).2.1 (by have := ne_of_beq_false hen; omega)))
                  have hen2 : ((en : Int) != 0) = true := by simp only [bne, hen]; rfl
                  have hen3 : ¬ (en = 0) := by have := ne_of_beq_false hen; omega
                  have hen4 : (en == 0) = false := by simpa using hen3
                  have HZ := hid_mk G0.out.zero
                  have hz : ∀ i, (wq).frozen? ⟨w.heap.size, i, none⟩ = false := fun i => by have hb := HZ.out; simp [World.frozen?, hb]
                  have hc : ∀ i, (wq).cell? ⟨w.heap.size, i, none⟩ = zeroM[i]? := fun i => cell_of_row _ _ _ _ _ _ HZ.out
                  have z0 := hc 0
                  have z1 := hc 1
                  have z2 := hc 2
                  have z3 := hc 3
                  have z4 := hc 4
                  have z5 := hc 5
                  have z6 := hc 6
                  have z7 := hc 7
                  have z8 := hc 8
                  have z9 := hc 9
                  have z10 := hc 10
                  have z11 := hc 11
                  clear hc
                  simp only [zeroM, List.getElem?_toArray, List.getElem?_cons_zero, List.getElem?_cons_succ] at z0 z1 z2 z3 z4 z5 z6 z7 z8 z9 z10 z11
                  go_wp2_with fail
                  refine bodyPost_ret (ret_msg2 (fn := Tryd.f17) rfl _ _ w.heap.size noM (.slice none 0 0) (.slice none 0 0) (.slice none 0 0) rfl (msg_laid HZ.out noM _ _ _)) rfl ⟨.slice none 0 0, .slice none 0 0, .slice none 0 0, by rw [HBAD.out.1, HBAD.out.2]; rfl, ⟨by rw [HBAD.out.1]; exact EntsR.nil _, by rw [HBAD.out.1]; exact IntsR.nil _, by rw [HBAD.out.1]; exact Byt.nil _⟩, ?_⟩
                  exact grown_new G0.out.gr (grown_msg _ w.heap.size noM (.slice none 0 0) (.slice none 0 0) (.slice none 0 0)) (Nat.le_refl _)
                | true =>
                  have HE0 := hid_mk (show en = 0 by have := eq_of_beq hen; omega)
                  have HW := hid_mk (And.intro HRD.out.1.1.reads (And.intro HRD.out.2.1.ints HRD.out.2.2.byt))
                  rw [HRD.out.1.2] at HW
                  obtain ⟨p0, p1, p2, p3, p4, p5, p6, p7, p8, p9, p10, p11⟩ := mb_all G0.out.mb
                  go_wp2_with fail
                  clear p0 p1 p2 p3 p4 p5 p6 p7 p8 p9 p10 p11
                  have HRI := hid_mk (rrightM_any m' (.slice a k c) (.slice none 0 0) (.slice none 0 0) wq (HW.out.1.kept GQ.out) (HW.out.2.1.kept GQ.out) HW.out.2.2.len HBN.out.1 HBN.out.2)
                  rw [HCM.out] at HRI
                  unfold msgCells at HRI
                  refine HRI.out.mono ?_
                  rintro e w20 ⟨rfl, hg20⟩
                  have G1 := hid_mk (G0.out.kept hg20)
                  have G20 := hid_mk (grown_trans GQ.out hg20)
                  clear HRI hg20
                  cases hrm : rightM m' with
                  | false =>
                    have HBAD := hid_mk (gotM_bad (l := l) (by cases hg : gOk l with | false => rfl | true => exact absurd (HREF.out.1.2 hg).2.2 (by rw [hrm]; simp)))
                    have HZ := hid_mk G1.out.zero
                    have hz : ∀ i, (w20).frozen? ⟨w.heap.size, i, none⟩ = false := fun i => by have hb := HZ.out; simp [World.frozen?, hb]
                    have hc : ∀ i, (w20).cell? ⟨w.heap.size, i, none⟩ = zeroM[i]? := fun i => cell_of_row _ _ _ _ _ _ HZ.out
                    have z0 := hc 0
                    have z1 := hc 1
                    have z2 := hc 2
                    have z3 := hc 3
                    have z4 := hc 4
                    have z5 := hc 5
                    have z6 := hc 6
                    have z7 := hc 7
                    have z8 := hc 8
                    have z9 := hc 9
                    have z10 := hc 10
                    have z11 := hc 11
                    clear hc
                    simp only [zeroM, List.getElem?_toArray, List.getElem?_cons_zero, List.getElem?_cons_succ] at z0 z1 z2 z3 z4 z5 z6 z7 z8 z9 z10 z11
                    go_wp2_with fail
                    refine bodyPost_ret (ret_msg2 (fn := Tryd.f17) rfl _ _ w.heap.size noM (.slice none 0 0) (.slice none 0 0) (.slice none 0 0) rfl (msg_laid HZ.out noM _ _ _)) rfl ⟨.slice none 0 0, .slice none 0 0, .slice none 0 0, by rw [HBAD.out.1, HBAD.out.2]; rfl, ⟨by rw [HBAD.out.1]; exact EntsR.nil _, by rw [HBAD.out.1]; exact IntsR.nil _, by rw [HBAD.out.1]; exact Byt.nil _⟩, ?_⟩
                    exact grown_new G1.out.gr (grown_msg _ w.heap.size noM (.slice none 0 0) (.slice none 0 0) (.slice none 0 0)) (Nat.le_refl _)
                  | true =>
                    have HOK := hid_mk (show gotM l = m' ∧ gotErr l = 0 from (by
                      have hg : gOk l = true := HREF.out.1.1 ⟨rfl, HE0.out, hrm⟩
                      exact ⟨by rw [(gotM_ok hg).1]; exact (HREF.out.2 hg).symm, (gotM_ok hg).2⟩))
                    have HZ := hid_mk G1.out.zero
                    have hz : ∀ i, (w20).frozen? ⟨w.heap.size, i, none⟩ = false := fun i => by have hb := HZ.out; simp [World.frozen?, hb]
                    have hc : ∀ i, (w20).cell? ⟨w.heap.size, i, none⟩ = zeroM[i]? := fun i => cell_of_row _ _ _ _ _ _ HZ.out
                    have z0 := hc 0
                    have z1 := hc 1
                    have z2 := hc 2
                    have z3 := hc 3
                    have z4 := hc 4
                    have z5 := hc 5
                    have z6 := hc 6
                    have z7 := hc 7
                    have z8 := hc 8
                    have z9 := hc 9
                    have z10 := hc 10
                    have z11 := hc 11
                    clear hc
                    simp only [zeroM, List.getElem?_toArray, List.getElem?_cons_zero, List.getElem?_cons_succ] at z0 z1 z2 z3 z4 z5 z6 z7 z8 z9 z10 z11
                    obtain ⟨p0, p1, p2, p3, p4, p5, p6, p7, p8, p9, p10, p11⟩ := mb_all G1.out.mb
                    go_wp2_with fail
                    have HGM := hid_mk (grown_msg w20 w.heap.size ⟨x0, x1, x2, x3, x4, x5, x6, x7, yb, [], [], []⟩ (.slice a k c) (.slice none 0 0) (.slice none 0 0))
                    refine bodyPost_ret (ret_msg2 (fn := Tryd.f17) rfl _ _ w.heap.size ⟨x0, x1, x2, x3, x4, x5, x6, x7, yb, [], [], []⟩ (.slice a k c) (.slice none 0 0) (.slice none 0 0) rfl (msg_laid HZ.out ⟨x0, x1, x2, x3, x4, x5, x6, x7, yb, [], [], []⟩ _ _ _)) rfl ⟨(.slice a k c), (.slice none 0 0), (.slice none 0 0), by rw [HOK.out.1, HOK.out.2, HCM.out]; rfl, ⟨?_, ?_, ?_⟩, ?_⟩
                    · have := ((HRD.out.1.1.kept G20.out (fun r e => by cases e)).kept HGM.out (fun r e => by cases e; exact ⟨_, _, _, HZ.out, by decide, by decide⟩)).reads
                      rw [HRD.out.1.2] at this
                      rw [HOK.out.1]
                      exact this
                    · rw [HOK.out.1]
                      exact OwnI.ints (owns_kept (HRD.out.2.1.kept G20.out) HGM.out (fun _ _ hh => ne_tag hh HZ.out (by decide)))
                    · rw [HOK.out.1]
                      exact Own.byt (owns_kept (HRD.out.2.2.kept G20.out (.inl rfl)) HGM.out (fun _ _ hh => ne_tag hh HZ.out (by decide)))
                    · exact grown_new G1.out.gr HGM.out (Nat.le_refl _)
            · go_upto_region 22 with fail
              cases okk with
              | false =>
                have HBAD := hid_mk (gotM_bad (l := l) (by cases hg : gOk l with | false => rfl | true => exact absurd (HREF.out.1.2 hg).1 (by simp)))
                have HZ := hid_mk HG.out.zero
                have hz : ∀ i, (w7).frozen? ⟨w.heap.size, i, none⟩ = false := fun i => by have hb := HZ.out; simp [World.frozen?, hb]
                have hc : ∀ i, (w7).cell? ⟨w.heap.size, i, none⟩ = zeroM[i]? := fun i => cell_of_row _ _ _ _ _ _ HZ.out
                have z0 := hc 0
                have z1 := hc 1
                have z2 := hc 2
                have z3 := hc 3
                have z4 := hc 4
                have z5 := hc 5
                have z6 := hc 6
                have z7 := hc 7
                have z8 := hc 8
                have z9 := hc 9
                have z10 := hc 10
                have z11 := hc 11
                clear hc
                simp only [zeroM, List.getElem?_toArray, List.getElem?_cons_zero, List.getElem?_cons_succ] at z0 z1 z2 z3 z4 z5 z6 z7 z8 z9 z10 z11
                go_wp2_with fail
                refine bodyPost_ret (ret_msg2 (fn := Tryd.f17) rfl _ _ w.heap.size noM (.slice none 0 0) (.slice none 0 0) (.slice none 0 0) rfl (msg_laid HZ.out noM _ _ _)) rfl ⟨.slice none 0 0, .slice none 0 0, .slice none 0 0, by rw [HBAD.out.1, HBAD.out.2]; rfl, ⟨by rw [HBAD.out.1]; exact EntsR.nil _, by rw [HBAD.out.1]; exact IntsR.nil _, by rw [HBAD.out.1]; exact Byt.nil _⟩, ?_⟩
                exact grown_new HG.out.gr (grown_msg _ w.heap.size noM (.slice none 0 0) (.slice none 0 0) (.slice none 0 0)) (Nat.le_refl _)
              | true =>
                go_wp2_with fail
                refine (rend_any M N b _ w7 HG.out.rr).mono ?_
                rintro e wx ⟨rfl, me, rfl⟩
                rw [HEN.out]
                have G0 := hid_mk (HG.out.kept (drawn w7 me))
                have GQ := hid_mk (drawn w7 me)
                generalize w7.drewN me = wq at *
                cases hen : ((en : Int) == 0) with
                | false =>
                  have HBAD := hid_mk (gotM_bad (l := l) (by cases hg : gOk l with | false => rfl | true => exact absurd (HREF.out.1.2 hg).2.1 (by have := ne_of_beq_false hen; omega)))
                  have hen2 : ((en : Int) != 0) = true := by simp only [bne, hen]; rfl
                  have hen3 : ¬ (en = 0) := by have := ne_of_beq_false hen; omega
                  have hen4 : (en == 0) = false := by simpa using hen3
                  have HZ := hid_mk G0.out.zero
                  have hz : ∀ i, (wq).frozen? ⟨w.heap.size, i, none⟩ = false := fun i => by have hb := HZ.out; simp [World.frozen?, hb]
                  have hc : ∀ i, (wq).cell? ⟨w.heap.size, i, none⟩ = zeroM[i]? := fun i => cell_of_row _ _ _ _ _ _ HZ.out
                  have z0 := hc 0
                  have z1 := hc 1
                  have z2 := hc 2
                  have z3 := hc 3
                  have z4 := hc 4
                  have z5 := hc 5
                  have z6 := hc 6
                  have z7 := hc 7
                  have z8 := hc 8
                  have z9 := hc 9
                  have z10 := hc 10
                  have z11 := hc 11
                  clear hc
                  simp only [zeroM, List.getElem?_toArray, List.getElem?_cons_zero, List.getElem?_cons_succ] at z0 z1 z2 z3 z4 z5 z6 z7 z8 z9 z10 z11
                  go_wp2_with fail
                  refine bodyPost_ret (ret_msg2 (fn := Tryd.f17) rfl _ _ w.heap.size noM (.slice none 0 0) (.slice none 0 0) (.slice none 0 0) rfl (msg_laid HZ.out noM _ _ _)) rfl ⟨.slice none 0 0, .slice none 0 0, .slice none 0 0, by rw [HBAD.out.1, HBAD.out.2]; rfl, ⟨by rw [HBAD.out.1]; exact EntsR.nil _, by rw [HBAD.out.1]; exact IntsR.nil _, by rw [HBAD.out.1]; exact Byt.nil _⟩, ?_⟩
                  exact grown_new G0.out.gr (grown_msg _ w.heap.size noM (.slice none 0 0) (.slice none 0 0) (.slice none 0 0)) (Nat.le_refl _)
                | true =>
                  have HE0 := hid_mk (show en = 0 by have := eq_of_beq hen; omega)
                  have HW := hid_mk (And.intro HRD.out.1.1.reads (And.intro HRD.out.2.1.ints HRD.out.2.2.byt))
                  rw [HRD.out.1.2] at HW
                  obtain ⟨p0, p1, p2, p3, p4, p5, p6, p7, p8, p9, p10, p11⟩ := mb_all G0.out.mb
                  go_wp2_with fail
                  clear p0 p1 p2 p3 p4 p5 p6 p7 p8 p9 p10 p11
                  have HRI := hid_mk (rrightM_any m' (.slice a k c) (.slice none 0 0) (.slice none 0 0) wq (HW.out.1.kept GQ.out) (HW.out.2.1.kept GQ.out) HW.out.2.2.len HBN.out.1 HBN.out.2)
                  rw [HCM.out] at HRI
                  unfold msgCells at HRI
                  refine HRI.out.mono ?_
                  rintro e w20 ⟨rfl, hg20⟩
                  have G1 := hid_mk (G0.out.kept hg20)
                  have G20 := hid_mk (grown_trans GQ.out hg20)
                  clear HRI hg20
                  cases hrm : rightM m' with
                  | false =>
                    have HBAD := hid_mk (gotM_bad (l := l) (by cases hg : gOk l with | false => rfl | true => exact absurd (HREF.out.1.2 hg).2.2 (by rw [hrm]; simp)))
                    have HZ := hid_mk G1.out.zero
                    have hz : ∀ i, (w20).frozen? ⟨w.heap.size, i, none⟩ = false := fun i => by have hb := HZ.out; simp [World.frozen?, hb]
                    have hc : ∀ i, (w20).cell? ⟨w.heap.size, i, none⟩ = zeroM[i]? := fun i => cell_of_row _ _ _ _ _ _ HZ.out
                    have z0 := hc 0
                    have z1 := hc 1
                    have z2 := hc 2
                    have z3 := hc 3
                    have z4 := hc 4
                    have z5 := hc 5
                    have z6 := hc 6
                    have z7 := hc 7
                    have z8 := hc 8
                    have z9 := hc 9
                    have z10 := hc 10
                    have z11 := hc 11
                    clear hc
                    simp only [zeroM, List.getElem?_toArray, List.getElem?_cons_zero, List.getElem?_cons_succ] at z0 z1 z2 z3 z4 z5 z6 z7 z8 z9 z10 z11
                    go_wp2_with fail
                    refine bodyPost_ret (ret_msg2 (fn := Tryd.f17) rfl _ _ w.heap.size noM (.slice none 0 0) (.slice none 0 0) (.slice none 0 0) rfl (msg_laid HZ.out noM _ _ _)) rfl ⟨.slice none 0 0, .slice none 0 0, .slice none 0 0, by rw [HBAD.out.1, HBAD.out.2]; rfl, ⟨by rw [HBAD.out.1]; exact EntsR.nil _, by rw [HBAD.out.1]; exact IntsR.nil _, by rw [HBAD.out.1]; exact Byt.nil _⟩, ?_⟩
                    exact grown_new G1.out.gr (grown_msg _ w.heap.size noM (.slice none 0 0) (.slice none 0 0) (.slice none 0 0)) (Nat.le_refl _)
                  | true =>
                    have HOK := hid_mk (show gotM l = m' ∧ gotErr l = 0 from (by
                      have hg : gOk l = true := HREF.out.1.1 ⟨rfl, HE0.out, hrm⟩
                      exact ⟨by rw [(gotM_ok hg).1]; exact (HREF.out.2 hg).symm, (gotM_ok hg).2⟩))
                    have HZ := hid_mk G1.out.zero
                    have hz : ∀ i, (w20).frozen? ⟨w.heap.size, i, none⟩ = false := fun i => by have hb := HZ.out; simp [World.frozen?, hb]
                    have hc : ∀ i, (w20).cell? ⟨w.heap.size, i, none⟩ = zeroM[i]? := fun i => cell_of_row _ _ _ _ _ _ HZ.out
                    have z0 := hc 0
                    have z1 := hc 1
                    have z2 := hc 2
                    have z3 := hc 3
                    have z4 := hc 4
                    have z5 := hc 5
                    have z6 := hc 6
                    have z7 := hc 7
                    have z8 := hc 8
                    have z9 := hc 9
                    have z10 := hc 10
                    have z11 := hc 11
                    clear hc
                    simp only [zeroM, List.getElem?_toArray, List.getElem?_cons_zero, List.getElem?_cons_succ] at z0 z1 z2 z3 z4 z5 z6 z7 z8 z9 z10 z11
                    obtain ⟨p0, p1, p2, p3, p4, p5, p6, p7, p8, p9, p10, p11⟩ := mb_all G1.out.mb
                    go_wp2_with fail
                    have HGM := hid_mk (grown_msg w20 w.heap.size ⟨x0, x1, x2, x3, x4, x5, x6, x7, yb, [], [], []⟩ (.slice a k c) (.slice none 0 0) (.slice none 0 0))
                    refine bodyPost_ret (ret_msg2 (fn := Tryd.f17) rfl _ _ w.heap.size ⟨x0, x1, x2, x3, x4, x5, x6, x7, yb, [], [], []⟩ (.slice a k c) (.slice none 0 0) (.slice none 0 0) rfl (msg_laid HZ.out ⟨x0, x1, x2, x3, x4, x5, x6, x7, yb, [], [], []⟩ _ _ _)) rfl ⟨(.slice a k c), (.slice none 0 0), (.slice none 0 0), by rw [HOK.out.1, HOK.out.2, HCM.out]; rfl, ⟨?_, ?_, ?_⟩, ?_⟩
                    · have := ((HRD.out.1.1.kept G20.out (fun r e => by cases e)).kept HGM.out (fun r e => by cases e; exact ⟨_, _, _, HZ.out, by decide, by decide⟩)).reads
                      rw [HRD.out.1.2] at this
                      rw [HOK.out.1]
                      exact this
                    · rw [HOK.out.1]
                      exact OwnI.ints (owns_kept (HRD.out.2.1.kept G20.out) HGM.out (fun _ _ hh => ne_tag hh HZ.out (by decide)))
                    · rw [HOK.out.1]
                      exact Own.byt (owns_kept (HRD.out.2.2.kept G20.out (.inl rfl)) HGM.out (fun _ _ hh => ne_tag hh HZ.out (by decide)))
                    · exact grown_new G1.out.gr HGM.out (Nat.le_refl _)

      | false =>
        cases h5 : ((x0 : Int) == 5) with
        | true =>
          have HREF := hid_mk (ref_five (l := l) (by have := eq_of_beq h5; have := HEQ.out.2.2.2.2.2; omega))
          have HSP := hid_mk (And.intro (gS_eq l) (gD_eq l))
          rw [HEQ.out.2.1] at HSP
          rw [HEQ.out.1, HEQ.out.2.1] at HREF
          rw [show decide (yp.1 = 1) = yb by rw [← HEQ.out.2.2.1]; exact dec_one _, show decide (yp.1 ≤ 1) = ob by rw [← HEQ.out.2.2.2.1]; exact dec_le _, HEQ.out.2.2.2.2.1] at HREF
          obtain ⟨sp, hsp⟩ : ∃ sp, gS l = sp := ⟨_, rfl⟩
          obtain ⟨dp, hdp⟩ : ∃ dp, gD l = dp := ⟨_, rfl⟩
          rw [hsp, hdp] at HSP HREF
          clear hsp hdp
          go_wp2_with fail
          refine (rbyt_any M N b yp.2 w5 HG.out.rr HG.out.lo.2.2).mono ?_
          rintro e w6 ⟨v6, rfl, ho6, hr6, hg6⟩
          rw [HSP.out.1] at ho6 hr6
          have H6 := hid_mk (And.intro (HG.out.turn hg6 hr6) ho6)
          have hs6 : sp.1.length ≤ 1048576 := by rw [← HSP.out.1]; exact readB_small2 _
          obtain ⟨a6, c6, rfl⟩ := ho6.len
          clear ho6 hr6 hg6 HG q0
          go_wp2_with fail
          refine (rgetServers_any _ sp.1 w6 H6.out.2.byt (by omega)).mono ?_
          rintro e w7 ⟨a7, c7, rfl, ho7, hg7⟩
          have H7 := hid_mk (And.intro (H6.out.1.kept hg7) (ho7.base (B' := N) H6.out.1.lo.2.2))
          have HNS := hid_mk (show (gotL sp.1).length ≤ 140737488355328 from ho7_len ho7)
          clear ho7 hg7 H6
          obtain ⟨eb, heb⟩ : ∃ eb : Bool, ((gotE sp.1 : Int) == 0) = eb := ⟨_, rfl⟩
          have HEB := hid_mk (show getOk sp.1 = eb by rw [← heb]; exact gotE_zero _)
          generalize gotE sp.1 = er at *
          have u7 := H7.out.1.mb.rest.2.2.1
          have f7 := H7.out.1.mb.rest.2.2.2.2 10
          have H8 := hid_mk (And.intro (H7.out.1.set 10 (.slice a7 (gotL sp.1).length c7) (H7.out.1.mb.set10 _)) (show OwnI (w7.setCell ⟨gm, 10, none⟩ (.slice a7 (gotL sp.1).length c7)) N (.slice a7 (gotL sp.1).length c7) (gotL sp.1) from owns_kept H7.out.2 (grown_setCell _ _ _ _) (fun _ _ hh => ne_tag hh H7.out.1.mb (by decide))))
          clear H7
          generalize hgl : (gotL sp.1).length = gl at *
          cases ob with
          | false =>
            rw [Bool.false_and] at HREF
            go_upto_region 21 with fail
            generalize w7.setCell ⟨gm, 10, none⟩ (.slice a7 gl c7) = w8 at *
            clear u7 f7 heb
            go_wp2_with fail
            refine (rbyt_any M N b sp.2 w8 H8.out.1.rr H8.out.1.lo.2.2).mono ?_
            rintro e w9 ⟨v9, rfl, ho9, hr9, hg9⟩
            rw [HSP.out.2] at ho9 hr9
            obtain ⟨a9, c9, e9⟩ := ho9.len
            subst e9
            have H9 := hid_mk (And.intro (H8.out.1.turn hg9 hr9) (And.intro (show OwnI w9 N (.slice a7 gl c7) (gotL sp.1) from owns_kept H8.out.2 hg9 (fun _ _ hh => by obtain ⟨c, f, ht⟩ := H8.out.1.rr.tag; exact ne_tag hh ht (by decide))) (ho9.base (B' := N) H8.out.1.lo.2.2)))
            have u9 := H9.out.1.mb.rest.2.2.2.1
            have f9 := H9.out.1.mb.rest.2.2.2.2 11
            have HX := hid_mk (And.intro (H9.out.1.set 11 (.slice a9 dp.1.length c9) (H9.out.1.mb.set11 _)) (And.intro (show OwnI (w9.setCell ⟨gm, 11, none⟩ (.slice a9 dp.1.length c9)) N (.slice a7 gl c7) (gotL sp.1) from owns_kept H9.out.2.1 (grown_setCell _ _ _ _) (fun _ _ hh => ne_tag hh H9.out.1.mb (by decide))) (show Own (w9.setCell ⟨gm, 11, none⟩ (.slice a9 dp.1.length c9)) N (.slice a9 dp.1.length c9) dp.1 from owns_kept H9.out.2.2 (grown_setCell _ _ _ _) (fun _ _ hh => ne_tag hh H9.out.1.mb (by decide)))))
            clear ho9 hr9 hg9 H8 H9
            generalize hdl : dp.1.length = dl at *
            have HGL := hid_mk hgl
            clear hdl hgl
            go_upto_region 22 with fail
            generalize w9.setCell ⟨gm, 11, none⟩ (.slice a9 dl c9) = wt at *
            clear u9 f9
            obtain ⟨m', hm'⟩ : ∃ m' : Msg, m' = { (⟨x0, x1, x2, x3, x4, x5, x6, x7, yb, [], [], []⟩ : Msg) with srv := gotL sp.1, data := dp.1 } := ⟨_, rfl⟩
            obtain ⟨en, hen0⟩ : ∃ en, endE dp.2 = en := ⟨_, rfl⟩
            have HEN := hid_mk hen0
            rw [← hm', hen0] at HREF
            have HCM := hid_mk (show ∀ ev sv dv, msgCells m' ev sv dv = msgCells ⟨x0, x1, x2, x3, x4, x5, x6, x7, yb, [], [], []⟩ ev sv dv from fun _ _ _ => by rw [hm']; rfl)
            have HG := hid_mk HX.out.1
            have HRD := hid_mk (show (EQ N wt (.slice none 0 0) [] ∧ ([] : List (Ent × Value)).map (·.1) = m'.ents) ∧ OwnI wt N (.slice a7 gl c7) m'.srv ∧ Own wt N (.slice a9 dl c9) m'.data from ⟨⟨EQ.nil _ _, by rw [hm']; rfl⟩, by rw [hm']; exact HX.out.2.1, by rw [hm']; exact HX.out.2.2⟩)
            have HBN := hid_mk (show m'.ents.length ≤ 140737488355328 ∧ m'.srv.length ≤ 140737488355328 from ⟨by rw [hm']; simp, by rw [hm']; show (gotL sp.1).length ≤ _; rw [HGL.out]; exact HNS.out⟩)
            clear hm' hen0 HX
            have HBAD := hid_mk (gotM_bad (l := l) (by cases hg : gOk l with | false => rfl | true => exact absurd (HREF.out.1.2 hg).1 (by simp)))
            have HZ := hid_mk HG.out.zero
            have hz : ∀ i, (wt).frozen? ⟨w.heap.size, i, none⟩ = false := fun i => by have hb := HZ.out; simp [World.frozen?, hb]
            have hc : ∀ i, (wt).cell? ⟨w.heap.size, i, none⟩ = zeroM[i]? := fun i => cell_of_row _ _ _ _ _ _ HZ.out
            have z0 := hc 0
            have z1 := hc 1
            have z2 := hc 2
            have z3 := hc 3
            have z4 := hc 4
            have z5 := hc 5
            have z6 := hc 6
            have z7 := hc 7
            have z8 := hc 8
            have z9 := hc 9
            have z10 := hc 10
            have z11 := hc 11
            clear hc
            simp only [zeroM, List.getElem?_toArray, List.getElem?_cons_zero, List.getElem?_cons_succ] at z0 z1 z2 z3 z4 z5 z6 z7 z8 z9 z10 z11
            go_wp2_with fail
            refine bodyPost_ret (ret_msg2 (fn := Tryd.f17) rfl _ _ w.heap.size noM (.slice none 0 0) (.slice none 0 0) (.slice none 0 0) rfl (msg_laid HZ.out noM _ _ _)) rfl ⟨.slice none 0 0, .slice none 0 0, .slice none 0 0, by rw [HBAD.out.1, HBAD.out.2]; rfl, ⟨by rw [HBAD.out.1]; exact EntsR.nil _, by rw [HBAD.out.1]; exact IntsR.nil _, by rw [HBAD.out.1]; exact Byt.nil _⟩, ?_⟩
            exact grown_new HG.out.gr (grown_msg _ w.heap.size noM (.slice none 0 0) (.slice none 0 0) (.slice none 0 0)) (Nat.le_refl _)
          | true =>
            rw [Bool.true_and, HEB.out] at HREF
            go_upto_region 21 with fail
            generalize w7.setCell ⟨gm, 10, none⟩ (.slice a7 gl c7) = w8 at *
            clear u7 f7 heb
            go_wp2_with fail
            refine (rbyt_any M N b sp.2 w8 H8.out.1.rr H8.out.1.lo.2.2).mono ?_
            rintro e w9 ⟨v9, rfl, ho9, hr9, hg9⟩
            rw [HSP.out.2] at ho9 hr9
            obtain ⟨a9, c9, e9⟩ := ho9.len
            subst e9
            have H9 := hid_mk (And.intro (H8.out.1.turn hg9 hr9) (And.intro (show OwnI w9 N (.slice a7 gl c7) (gotL sp.1) from owns_kept H8.out.2 hg9 (fun _ _ hh => by obtain ⟨c, f, ht⟩ := H8.out.1.rr.tag; exact ne_tag hh ht (by decide))) (ho9.base (B' := N) H8.out.1.lo.2.2)))
            have u9 := H9.out.1.mb.rest.2.2.2.1
            have f9 := H9.out.1.mb.rest.2.2.2.2 11
            have HX := hid_mk (And.intro (H9.out.1.set 11 (.slice a9 dp.1.length c9) (H9.out.1.mb.set11 _)) (And.intro (show OwnI (w9.setCell ⟨gm, 11, none⟩ (.slice a9 dp.1.length c9)) N (.slice a7 gl c7) (gotL sp.1) from owns_kept H9.out.2.1 (grown_setCell _ _ _ _) (fun _ _ hh => ne_tag hh H9.out.1.mb (by decide))) (show Own (w9.setCell ⟨gm, 11, none⟩ (.slice a9 dp.1.length c9)) N (.slice a9 dp.1.length c9) dp.1 from owns_kept H9.out.2.2 (grown_setCell _ _ _ _) (fun _ _ hh => ne_tag hh H9.out.1.mb (by decide)))))
            clear ho9 hr9 hg9 H8 H9
            generalize hdl : dp.1.length = dl at *
            have HGL := hid_mk hgl
            clear hdl hgl
            go_upto_region 22 with fail
            generalize w9.setCell ⟨gm, 11, none⟩ (.slice a9 dl c9) = wt at *
            clear u9 f9
            obtain ⟨m', hm'⟩ : ∃ m' : Msg, m' = { (⟨x0, x1, x2, x3, x4, x5, x6, x7, yb, [], [], []⟩ : Msg) with srv := gotL sp.1, data := dp.1 } := ⟨_, rfl⟩
            obtain ⟨en, hen0⟩ : ∃ en, endE dp.2 = en := ⟨_, rfl⟩
            have HEN := hid_mk hen0
            rw [← hm', hen0] at HREF
            have HCM := hid_mk (show ∀ ev sv dv, msgCells m' ev sv dv = msgCells ⟨x0, x1, x2, x3, x4, x5, x6, x7, yb, [], [], []⟩ ev sv dv from fun _ _ _ => by rw [hm']; rfl)
            have HG := hid_mk HX.out.1
            have HRD := hid_mk (show (EQ N wt (.slice none 0 0) [] ∧ ([] : List (Ent × Value)).map (·.1) = m'.ents) ∧ OwnI wt N (.slice a7 gl c7) m'.srv ∧ Own wt N (.slice a9 dl c9) m'.data from ⟨⟨EQ.nil _ _, by rw [hm']; rfl⟩, by rw [hm']; exact HX.out.2.1, by rw [hm']; exact HX.out.2.2⟩)
            have HBN := hid_mk (show m'.ents.length ≤ 140737488355328 ∧ m'.srv.length ≤ 140737488355328 from ⟨by rw [hm']; simp, by rw [hm']; show (gotL sp.1).length ≤ _; rw [HGL.out]; exact HNS.out⟩)
            clear hm' hen0 HX
            cases eb with
            | false =>
              have HBAD := hid_mk (gotM_bad (l := l) (by cases hg : gOk l with | false => rfl | true => exact absurd (HREF.out.1.2 hg).1 (by simp)))
              have HZ := hid_mk HG.out.zero
              have hz : ∀ i, (wt).frozen? ⟨w.heap.size, i, none⟩ = false := fun i => by have hb := HZ.out; simp [World.frozen?, hb]
              have hc : ∀ i, (wt).cell? ⟨w.heap.size, i, none⟩ = zeroM[i]? := fun i => cell_of_row _ _ _ _ _ _ HZ.out
              have z0 := hc 0
              have z1 := hc 1
              have z2 := hc 2
              have z3 := hc 3
              have z4 := hc 4
              have z5 := hc 5
              have z6 := hc 6
              have z7 := hc 7
              have z8 := hc 8
              have z9 := hc 9
              have z10 := hc 10
              have z11 := hc 11
              clear hc
              simp only [zeroM, List.getElem?_toArray, List.getElem?_cons_zero, List.getElem?_cons_succ] at z0 z1 z2 z3 z4 z5 z6 z7 z8 z9 z10 z11
              go_wp2_with fail
              refine bodyPost_ret (ret_msg2 (fn := Tryd.f17) rfl _ _ w.heap.size noM (.slice none 0 0) (.slice none 0 0) (.slice none 0 0) rfl (msg_laid HZ.out noM _ _ _)) rfl ⟨.slice none 0 0, .slice none 0 0, .slice none 0 0, by rw [HBAD.out.1, HBAD.out.2]; rfl, ⟨by rw [HBAD.out.1]; exact EntsR.nil _, by rw [HBAD.out.1]; exact IntsR.nil _, by rw [HBAD.out.1]; exact Byt.nil _⟩, ?_⟩
              exact grown_new HG.out.gr (grown_msg _ w.heap.size noM (.slice none 0 0) (.slice none 0 0) (.slice none 0 0)) (Nat.le_refl _)
            | true =>
              go_wp2_with fail
              refine (rend_any M N b _ wt HG.out.rr).mono ?_
              rintro e wx ⟨rfl, me, rfl⟩
              rw [HEN.out]
              have G0 := hid_mk (HG.out.kept (drawn wt me))
              have GQ := hid_mk (drawn wt me)
              generalize wt.drewN me = wq at *
              cases hen : ((en : Int) == 0) with
              | false =>
                have HBAD := hid_mk (gotM_bad (l := l) (by cases hg : gOk l with | false => rfl | true => exact absurd (HREF.out.1.2 hg).2.1 (by have := ne_of_beq_false hen; omega)))
                have hen2 : ((en : Int) != 0) = true := by simp only [bne, hen]; rfl
                have hen3 : ¬ (en = 0) := by have := ne_of_beq_false hen; omega
                have hen4 : (en == 0) = false := by simpa using hen3
                have HZ := hid_mk G0.out.zero
                have hz : ∀ i, (wq).frozen? ⟨w.heap.size, i, none⟩ = false := fun i => by have hb := HZ.out; simp [World.frozen?, hb]
                have hc : ∀ i, (wq).cell? ⟨w.heap.size, i, none⟩ = zeroM[i]? := fun i => cell_of_row _ _ _ _ _ _ HZ.out
                have z0 := hc 0
                have z1 := hc 1
                have z2 := hc 2
                have z3 := hc 3
                have z4 := hc 4
                have z5 := hc 5
                have z6 := hc 6
                have z7 := hc 7
                have z8 := hc 8
                have z9 := hc 9
                have z10 := hc 10
                have z11 := hc 11
                clear hc
                simp only [zeroM, List.getElem?_toArray, List.getElem?_cons_zero, List.getElem?_cons_succ] at z0 z1 z2 z3 z4 z5 z6 z7 z8 z9 z10 z11
                go_wp2_with fail
                refine bodyPost_ret (ret_msg2 (fn := Tryd.f17) rfl _ _ w.heap.size noM (.slice none 0 0) (.slice none 0 0) (.slice none 0 0) rfl (msg_laid HZ.out noM _ _ _)) rfl ⟨.slice none 0 0, .slice none 0 0, .slice none 0 0, by rw [HBAD.out.1, HBAD.out.2]; rfl, ⟨by rw [HBAD.out.1]; exact EntsR.nil _, by rw [HBAD.out.1]; exact IntsR.nil _, by rw [HBAD.out.1]; exact Byt.nil _⟩, ?_⟩
                exact grown_new G0.out.gr (grown_msg _ w.heap.size noM (.slice none 0 0) (.slice none 0 0) (.slice none 0 0)) (Nat.le_refl _)
              | true =>
                have HE0 := hid_mk (show en = 0 by have := eq_of_beq hen; omega)
                have HW := hid_mk (And.intro HRD.out.1.1.reads (And.intro HRD.out.2.1.ints HRD.out.2.2.byt))
                rw [HRD.out.1.2] at HW
                obtain ⟨p0, p1, p2, p3, p4, p5, p6, p7, p8, p9, p10, p11⟩ := mb_all G0.out.mb
                go_wp2_with fail
                clear p0 p1 p2 p3 p4 p5 p6 p7 p8 p9 p10 p11
                have HRI := hid_mk (rrightM_any m' (.slice none 0 0) (.slice a7 gl c7) (.slice a9 dl c9) wq (HW.out.1.kept GQ.out) (HW.out.2.1.kept GQ.out) HW.out.2.2.len HBN.out.1 HBN.out.2)
                rw [HCM.out] at HRI
                unfold msgCells at HRI
                refine HRI.out.mono ?_
                rintro e w20 ⟨rfl, hg20⟩
                have G1 := hid_mk (G0.out.kept hg20)
                have G20 := hid_mk (grown_trans GQ.out hg20)
                clear HRI hg20
                cases hrm : rightM m' with
                | false =>
                  have HBAD := hid_mk (gotM_bad (l := l) (by cases hg : gOk l with | false => rfl | true => exact absurd (HREF.out.1.2 hg).2.2 (by rw [hrm]; simp)))
                  have HZ := hid_mk G1.out.zero
                  have hz : ∀ i, (w20).frozen? ⟨w.heap.size, i, none⟩ = false := fun i => by have hb := HZ.out; simp [World.frozen?, hb]
                  have hc : ∀ i, (w20).cell? ⟨w.heap.size, i, none⟩ = zeroM[i]? := fun i => cell_of_row _ _ _ _ _ _ HZ.out
                  have z0 := hc 0
                  have z1 := hc 1
                  have z2 := hc 2
                  have z3 := hc 3
                  have z4 := hc 4
                  have z5 := hc 5
                  have z6 := hc 6
                  have z7 := hc 7
                  have z8 := hc 8
                  have z9 := hc 9
                  have z10 := hc 10
                  have z11 := hc 11
                  clear hc
                  simp only [zeroM, List.getElem?_toArray, List.getElem?_cons_zero, List.getElem?_cons_succ] at z0 z1 z2 z3 z4 z5 z6 z7 z8 z9 z10 z11
                  go_wp2_with fail
                  refine bodyPost_ret (ret_msg2 (fn := Tryd.f17) rfl _ _ w.heap.size noM (.slice none 0 0) (.slice none 0 0) (.slice none 0 0) rfl (msg_laid HZ.out noM _ _ _)) rfl ⟨.slice none 0 0, .slice none 0 0, .slice none 0 0, by rw [HBAD.out.1, HBAD.out.2]; rfl, ⟨by rw [HBAD.out.1]; exact EntsR.nil _, by rw [HBAD.out.1]; exact IntsR.nil _, by rw [HBAD.out.1]; exact Byt.nil _⟩, ?_⟩
                  exact grown_new G1.out.gr (grown_msg _ w.heap.size noM (.slice none 0 0) (.slice none 0 0) (.slice none 0 0)) (Nat.le_refl _)
                | true =>
                  have HOK := hid_mk (show gotM l = m' ∧ gotErr l = 0 from (by
                    have hg : gOk l = true := HREF.out.1.1 ⟨rfl, HE0.out, hrm⟩
                    exact ⟨by rw [(gotM_ok hg).1]; exact (HREF.out.2 hg).symm, (gotM_ok hg).2⟩))
                  have HZ := hid_mk G1.out.zero
                  have hz : ∀ i, (w20).frozen? ⟨w.heap.size, i, none⟩ = false := fun i => by have hb := HZ.out; simp [World.frozen?, hb]
                  have hc : ∀ i, (w20).cell? ⟨w.heap.size, i, none⟩ = zeroM[i]? := fun i => cell_of_row _ _ _ _ _ _ HZ.out
                  have z0 := hc 0
                  have z1 := hc 1
                  have z2 := hc 2
                  have z3 := hc 3
                  have z4 := hc 4
                  have z5 := hc 5
                  have z6 := hc 6
                  have z7 := hc 7
                  have z8 := hc 8
                  have z9 := hc 9
                  have z10 := hc 10
                  have z11 := hc 11
                  clear hc
                  simp only [zeroM, List.getElem?_toArray, List.getElem?_cons_zero, List.getElem?_cons_succ] at z0 z1 z2 z3 z4 z5 z6 z7 z8 z9 z10 z11
                  obtain ⟨p0, p1, p2, p3, p4, p5, p6, p7, p8, p9, p10, p11⟩ := mb_all G1.out.mb
                  go_wp2_with fail
                  have HGM := hid_mk (grown_msg w20 w.heap.size ⟨x0, x1, x2, x3, x4, x5, x6, x7, yb, [], [], []⟩ (.slice none 0 0) (.slice a7 gl c7) (.slice a9 dl c9))
                  refine bodyPost_ret (ret_msg2 (fn := Tryd.f17) rfl _ _ w.heap.size ⟨x0, x1, x2, x3, x4, x5, x6, x7, yb, [], [], []⟩ (.slice none 0 0) (.slice a7 gl c7) (.slice a9 dl c9) rfl (msg_laid HZ.out ⟨x0, x1, x2, x3, x4, x5, x6, x7, yb, [], [], []⟩ _ _ _)) rfl ⟨(.slice none 0 0), (.slice a7 gl c7), (.slice a9 dl c9), by rw [HOK.out.1, HOK.out.2, HCM.out]; rfl, ⟨?_, ?_, ?_⟩, ?_⟩
                  · have := ((HRD.out.1.1.kept G20.out (fun r e => by cases e)).kept HGM.out (fun r e => by cases e; exact ⟨_, _, _, HZ.out, by decide, by decide⟩)).reads
                    rw [HRD.out.1.2] at this
                    rw [HOK.out.1]
                    exact this
                  · rw [HOK.out.1]
                    exact OwnI.ints (owns_kept (HRD.out.2.1.kept G20.out) HGM.out (fun _ _ hh => ne_tag hh HZ.out (by decide)))
                  · rw [HOK.out.1]
                    exact Own.byt (owns_kept (HRD.out.2.2.kept G20.out (.inl rfl)) HGM.out (fun _ _ hh => ne_tag hh HZ.out (by decide)))
                  · exact grown_new G1.out.gr HGM.out (Nat.le_refl _)

        | false =>
          have HREF := hid_mk (ref_other (l := l) (by have := ne_of_beq_false h3; have := HEQ.out.2.2.2.2.2; omega) (by have := ne_of_beq_false h5; have := HEQ.out.2.2.2.2.2; omega))
          rw [HEQ.out.1, HEQ.out.2.1] at HREF
          rw [show decide (yp.1 = 1) = yb by rw [← HEQ.out.2.2.1]; exact dec_one _, show decide (yp.1 ≤ 1) = ob by rw [← HEQ.out.2.2.2.1]; exact dec_le _, HEQ.out.2.2.2.2.1] at HREF
          obtain ⟨m', hm'⟩ : ∃ m' : Msg, m' = ⟨x0, x1, x2, x3, x4, x5, x6, x7, yb, [], [], []⟩ := ⟨_, rfl⟩
          obtain ⟨ok, hok⟩ : ∃ ok : Bool, ok = ob := ⟨_, rfl⟩
          obtain ⟨en, hen0⟩ : ∃ en, endE yp.2 = en := ⟨_, rfl⟩
          have HEN := hid_mk hen0
          rw [← hm', ← hok, hen0] at HREF
          have HCM := hid_mk (show ∀ ev sv dv, msgCells m' ev sv dv = msgCells ⟨x0, x1, x2, x3, x4, x5, x6, x7, yb, [], [], []⟩ ev sv dv from fun _ _ _ => by rw [hm'])
          have HRD := hid_mk (show (EQ N w5 (.slice none 0 0) [] ∧ ([] : List (Ent × Value)).map (·.1) = m'.ents) ∧ OwnI w5 N (.slice none 0 0) m'.srv ∧ Own w5 N (.slice none 0 0) m'.data from ⟨⟨EQ.nil _ _, by rw [hm']; rfl⟩, by rw [hm']; exact OwnI.nil _ _, by rw [hm']; exact World.ownsRow_nil _ _ _ _⟩)
          have HBN := hid_mk (show m'.ents.length ≤ 140737488355328 ∧ m'.srv.length ≤ 140737488355328 from ⟨by rw [hm']; simp, by rw [hm']; simp⟩)
          rw [← hok]
          clear hm' hok hen0
          go_upto_region 22 with fail
          cases ok with
          | false =>
            have HBAD := hid_mk (gotM_bad (l := l) (by cases hg : gOk l with | false => rfl | true => exact absurd (HREF.out.1.2 hg).1 (by simp)))
            have HZ := hid_mk HG.out.zero
            have hz : ∀ i, (w5).frozen? ⟨w.heap.size, i, none⟩ = false := fun i => by have hb := HZ.out; simp [World.frozen?, hb]
            have hc : ∀ i, (w5).cell? ⟨w.heap.size, i, none⟩ = zeroM[i]? := fun i => cell_of_row _ _ _ _ _ _ HZ.out
            have z0 := hc 0
            have z1 := hc 1
            have z2 := hc 2
            have z3 := hc 3
            have z4 := hc 4
            have z5 := hc 5
            have z6 := hc 6
            have z7 := hc 7
            have z8 := hc 8
            have z9 := hc 9
            have z10 := hc 10
            have z11 := hc 11
            clear hc
            simp only [zeroM, List.getElem?_toArray, List.getElem?_cons_zero, List.getElem?_cons_succ] at z0 z1 z2 z3 z4 z5 z6 z7 z8 z9 z10 z11
            go_wp2_with fail
            refine bodyPost_ret (ret_msg2 (fn := Tryd.f17) rfl _ _ w.heap.size noM (.slice none 0 0) (.slice none 0 0) (.slice none 0 0) rfl (msg_laid HZ.out noM _ _ _)) rfl ⟨.slice none 0 0, .slice none 0 0, .slice none 0 0, by rw [HBAD.out.1, HBAD.out.2]; rfl, ⟨by rw [HBAD.out.1]; exact EntsR.nil _, by rw [HBAD.out.1]; exact IntsR.nil _, by rw [HBAD.out.1]; exact Byt.nil _⟩, ?_⟩
            exact grown_new HG.out.gr (grown_msg _ w.heap.size noM (.slice none 0 0) (.slice none 0 0) (.slice none 0 0)) (Nat.le_refl _)
          | true =>
            go_wp2_with fail
            refine (rend_any M N b _ w5 HG.out.rr).mono ?_
            rintro e wx ⟨rfl, me, rfl⟩
            rw [HEN.out]
            have G0 := hid_mk (HG.out.kept (drawn w5 me))
            have GQ := hid_mk (drawn w5 me)
            generalize w5.drewN me = wq at *
            cases hen : ((en : Int) == 0) with
            | false =>
              have HBAD := hid_mk (gotM_bad (l := l) (by cases hg : gOk l with | false => rfl | true => exact absurd (HREF.out.1.2 hg).2.1 (by have := ne_of_beq_false hen; omega)))
              have hen2 : ((en : Int) != 0) = true := by simp only [bne, hen]; rfl
              have hen3 : ¬ (en = 0) := by have := ne_of_beq_false hen; omega
              have hen4 : (en == 0) = false := by simpa using hen3
              have HZ := hid_mk G0.out.zero
              have hz : ∀ i, (wq).frozen? ⟨w.heap.size, i, none⟩ = false := fun i => by have hb := HZ.out; simp [World.frozen?, hb]
              have hc : ∀ i, (wq).cell? ⟨w.heap.size, i, none⟩ = zeroM[i]? := fun i => cell_of_row _ _ _ _ _ _ HZ.out
              have z0 := hc 0
              have z1 := hc 1
              have z2 := hc 2
              have z3 := hc 3
              have z4 := hc 4
              have z5 := hc 5
              have z6 := hc 6
              have z7 := hc 7
              have z8 := hc 8
              have z9 := hc 9
              have z10 := hc 10
              have z11 := hc 11
              clear hc
              simp only [zeroM, List.getElem?_toArray, List.getElem?_cons_zero, List.getElem?_cons_succ] at z0 z1 z2 z3 z4 z5 z6 z7 z8 z9 z10 z11
              go_wp2_with fail
              refine bodyPost_ret (ret_msg2 (fn := Tryd.f17) rfl _ _ w.heap.size noM (.slice none 0 0) (.slice none 0 0) (.slice none 0 0) rfl (msg_laid HZ.out noM _ _ _)) rfl ⟨.slice none 0 0, .slice none 0 0, .slice none 0 0, by rw [HBAD.out.1, HBAD.out.2]; rfl, ⟨by rw [HBAD.out.1]; exact EntsR.nil _, by rw [HBAD.out.1]; exact IntsR.nil _, by rw [HBAD.out.1]; exact Byt.nil _⟩, ?_⟩
              exact grown_new G0.out.gr (grown_msg _ w.heap.size noM (.slice none 0 0) (.slice none 0 0) (.slice none 0 0)) (Nat.le_refl _)
            | true =>
              have HE0 := hid_mk (show en = 0 by have := eq_of_beq hen; omega)
              have HW := hid_mk (And.intro HRD.out.1.1.reads (And.intro HRD.out.2.1.ints HRD.out.2.2.byt))
              rw [HRD.out.1.2] at HW
              obtain ⟨p0, p1, p2, p3, p4, p5, p6, p7, p8, p9, p10, p11⟩ := mb_all G0.out.mb
              go_wp2_with fail
              clear p0 p1 p2 p3 p4 p5 p6 p7 p8 p9 p10 p11
              have HRI := hid_mk (rrightM_any m' (.slice none 0 0) (.slice none 0 0) (.slice none 0 0) wq (HW.out.1.kept GQ.out) (HW.out.2.1.kept GQ.out) HW.out.2.2.len HBN.out.1 HBN.out.2)
              rw [HCM.out] at HRI
              unfold msgCells at HRI
              refine HRI.out.mono ?_
              rintro e w20 ⟨rfl, hg20⟩
              have G1 := hid_mk (G0.out.kept hg20)
              have G20 := hid_mk (grown_trans GQ.out hg20)
              clear HRI hg20
              cases hrm : rightM m' with
              | false =>
                have HBAD := hid_mk (gotM_bad (l := l) (by cases hg : gOk l with | false => rfl | true => exact absurd (HREF.out.1.2 hg).2.2 (by rw [hrm]; simp)))
                have HZ := hid_mk G1.out.zero
                have hz : ∀ i, (w20).frozen? ⟨w.heap.size, i, none⟩ = false := fun i => by have hb := HZ.out; simp [World.frozen?, hb]
                have hc : ∀ i, (w20).cell? ⟨w.heap.size, i, none⟩ = zeroM[i]? := fun i => cell_of_row _ _ _ _ _ _ HZ.out
                have z0 := hc 0
                have z1 := hc 1
                have z2 := hc 2
                have z3 := hc 3
                have z4 := hc 4
                have z5 := hc 5
                have z6 := hc 6
                have z7 := hc 7
                have z8 := hc 8
                have z9 := hc 9
                have z10 := hc 10
                have z11 := hc 11
                clear hc
                simp only [zeroM, List.getElem?_toArray, List.getElem?_cons_zero, List.getElem?_cons_succ] at z0 z1 z2 z3 z4 z5 z6 z7 z8 z9 z10 z11
                go_wp2_with fail
                refine bodyPost_ret (ret_msg2 (fn := Tryd.f17) rfl _ _ w.heap.size noM (.slice none 0 0) (.slice none 0 0) (.slice none 0 0) rfl (msg_laid HZ.out noM _ _ _)) rfl ⟨.slice none 0 0, .slice none 0 0, .slice none 0 0, by rw [HBAD.out.1, HBAD.out.2]; rfl, ⟨by rw [HBAD.out.1]; exact EntsR.nil _, by rw [HBAD.out.1]; exact IntsR.nil _, by rw [HBAD.out.1]; exact Byt.nil _⟩, ?_⟩
                exact grown_new G1.out.gr (grown_msg _ w.heap.size noM (.slice none 0 0) (.slice none 0 0) (.slice none 0 0)) (Nat.le_refl _)
              | true =>
                have HOK := hid_mk (show gotM l = m' ∧ gotErr l = 0 from (by
                  have hg : gOk l = true := HREF.out.1.1 ⟨rfl, HE0.out, hrm⟩
                  exact ⟨by rw [(gotM_ok hg).1]; exact (HREF.out.2 hg).symm, (gotM_ok hg).2⟩))
                have HZ := hid_mk G1.out.zero
                have hz : ∀ i, (w20).frozen? ⟨w.heap.size, i, none⟩ = false := fun i => by have hb := HZ.out; simp [World.frozen?, hb]
                have hc : ∀ i, (w20).cell? ⟨w.heap.size, i, none⟩ = zeroM[i]? := fun i => cell_of_row _ _ _ _ _ _ HZ.out
                have z0 := hc 0
                have z1 := hc 1
                have z2 := hc 2
                have z3 := hc 3
                have z4 := hc 4
                have z5 := hc 5
                have z6 := hc 6
                have z7 := hc 7
                have z8 := hc 8
                have z9 := hc 9
                have z10 := hc 10
                have z11 := hc 11
                clear hc
                simp only [zeroM, List.getElem?_toArray, List.getElem?_cons_zero, List.getElem?_cons_succ] at z0 z1 z2 z3 z4 z5 z6 z7 z8 z9 z10 z11
                obtain ⟨p0, p1, p2, p3, p4, p5, p6, p7, p8, p9, p10, p11⟩ := mb_all G1.out.mb
                go_wp2_with fail
                have HGM := hid_mk (grown_msg w20 w.heap.size ⟨x0, x1, x2, x3, x4, x5, x6, x7, yb, [], [], []⟩ (.slice none 0 0) (.slice none 0 0) (.slice none 0 0))
                refine bodyPost_ret (ret_msg2 (fn := Tryd.f17) rfl _ _ w.heap.size ⟨x0, x1, x2, x3, x4, x5, x6, x7, yb, [], [], []⟩ (.slice none 0 0) (.slice none 0 0) (.slice none 0 0) rfl (msg_laid HZ.out ⟨x0, x1, x2, x3, x4, x5, x6, x7, yb, [], [], []⟩ _ _ _)) rfl ⟨(.slice none 0 0), (.slice none 0 0), (.slice none 0 0), by rw [HOK.out.1, HOK.out.2, HCM.out]; rfl, ⟨?_, ?_, ?_⟩, ?_⟩
                · have := ((HRD.out.1.1.kept G20.out (fun r e => by cases e)).kept HGM.out (fun r e => by cases e; exact ⟨_, _, _, HZ.out, by decide, by decide⟩)).reads
                  rw [HRD.out.1.2] at this
                  rw [HOK.out.1]
                  exact this
                · rw [HOK.out.1]
                  exact OwnI.ints (owns_kept (HRD.out.2.1.kept G20.out) HGM.out (fun _ _ hh => ne_tag hh HZ.out (by decide)))
                · rw [HOK.out.1]
                  exact Own.byt (owns_kept (HRD.out.2.2.kept G20.out (.inl rfl)) HGM.out (fun _ _ hh => ne_tag hh HZ.out (by decide)))
                · exact grown_new G1.out.gr HGM.out (Nat.le_refl _)

end Go.Proofs.YtliefofdlpljaaaDoor
