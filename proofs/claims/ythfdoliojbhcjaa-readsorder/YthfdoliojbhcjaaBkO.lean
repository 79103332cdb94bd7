/- ReadsOrder. -/
import Derived.Test.YthfdoliojbhcjaaBkOa
namespace Go.Proofs.Ythfdoliojbhcjaa
open Go.RowKit Go.Maps
set_option linter.unusedVariables false
set_option linter.unusedSimpArgs false
set_option maxRecDepth 100000

theorem box_apart {W : World} {B b : Nat} {v : Value} {g : Bk} (h : IsB W B b v g) {q : Nat} {cs : Array Value} {t : TypeId} (hq : Blk W q cs t) (h1 : t ≠ 45) (h2 : t ≠ 66) : ¬ Ofb b v q := fun hf => by
  rcases hf with rfl | hf
  · exact hq.ne h.blk h1 rfl
  · exact own_ne h.row hq h2 hf.symm
set_option maxHeartbeats 8000000 in
theorem readsOrder_walk (me : Int) (lv sv : Value) (L : Nat) (S : List Int) (w : World) (hO : OpsIn w lv L) (hS : Nums w sv S) : Calls Try.prog 7 #[.int .i64 me, lv, sv] w fun e w' => e = .returned (.bool true) ∧ w.grownBy w' none := by
  obtain ⟨la, lc, rfl⟩ := hO.1
  obtain ⟨sa, sc, rfl⟩ := hS.1.len
  have hL := hO.2.1
  have HO := hid_mk hO
  have HS := hid_mk hS
  clear hO hS
  have HA : Hid (wrap64 (me.tmod 16 + 16) = me.tmod 16 + 16 ∧ (me.tmod 16 + 16).tmod 16 = (rst me 16 : Int)) := hid_mk (rem_lit me 16 (by omega) (by omega))
  have HM := hid_mk (rst_lt me (show 1 ≤ 16 by omega))
  generalize rst me 16 = m at *
  go_enter Try.func7, Try.ntmps7
  go_wp2_with fail
  simp only [HA.out.1, HA.out.2]
  refine (m_new (grown_refl w none) m HM.out).mono ?_
  rintro e w1 ⟨b, rfl, h1⟩
  have H1 := hid_mk h1
  clear h1 HA
  go_wp2_with (go_at_call 10; refine (num_any _ _).mono ?_; rintro e w' ⟨rfl, hw⟩; rw [hw]; clear hw)
  refine (knows_any w1).mono ?_
  rintro e w2 ⟨rfl, hg⟩
  have H2 := hid_mk (H1.out.kept hg)
  clear hg H1
  go_wp2_with fail
  go_loopg [9] 90 (fun gg iv W => ∃ i : Nat, i ≤ 90 ∧ i ≤ L ∧ gg = 90 - i ∧ iv = .int .i64 i ∧ Hid (∃ v g, Mine w W b v g ∧ Asc g.L i))
  case atStart => exact ⟨0, by omega, by omega, rfl, rfl, hid_mk ⟨_, _, H2.out, ⟨List.Pairwise.nil, by simp [newB], by simp [newB]⟩⟩⟩
  case round =>
    obtain ⟨i, hi, hiL, hgk, rfl, H⟩ := hrel
    rename World => W
    clear H2
    by_cases hlt : i < L ∧ i < 90
    · have hlt1 : (i : Int) < L := by omega
      have hlt2 : (i : Int) < 90 := by omega
      obtain ⟨v, g, hmine, hasc⟩ := H.out
      have HG := hid_mk (And.intro hmine hasc)
      obtain ⟨gb, off, hix, o, c0, c1, c2, c3, c4, ook⟩ := (HO.out.kept hmine.2).2.2 i hlt.1
      obtain ⟨oa, oc, hosv⟩ := ook.1.1.len
      rw [hosv] at c4
      clear hosv ook hmine hasc H
      generalize o.k = k at *
      generalize o.a = ao at *
      generalize o.b = bo at *
      generalize o.c = co at *
      generalize o.S.length = sl at *
      have HB : Hid (wrap64 (bo.tmod 9 + 9) = bo.tmod 9 + 9 ∧ (bo.tmod 9 + 9).tmod 9 = (rst bo 9 : Int)) := hid_mk (rem_lit bo 9 (by omega) (by omega))
      have HC : Hid (wrap64 (co.tmod 9 + 9) = co.tmod 9 + 9 ∧ (co.tmod 9 + 9).tmod 9 = (rst co 9 : Int)) := hid_mk (rem_lit co 9 (by omega) (by omega))
      have HD : Hid (wrap64 (ao.tmod 16 + 16) = ao.tmod 16 + 16 ∧ (ao.tmod 16 + 16).tmod 16 = (rst ao 16 : Int)) := hid_mk (rem_lit ao 16 (by omega) (by omega))
      have HBb := hid_mk (rst_lt bo (show 1 ≤ 9 by omega))
      have HCb := hid_mk (rst_lt co (show 1 ≤ 9 by omega))
      have HDb := hid_mk (rst_lt ao (show 1 ≤ 16 by omega))
      generalize rst bo 9 = br at *
      generalize rst co 9 = cr at *
      generalize rst ao 16 = ar at *
      have HBox := hid_mk (fun (W' : World) (hg : W.grownBy W' none) => hg)
      by_cases hk : k = 0
      · subst hk
        have HX := hid_mk (show Blk (W.alloc (.cells #[.int .i64 0, .int .i64 ao, .int .i64 bo, .int .i64 co, .slice oa sl oc] 34)) W.heap.size #[.int .i64 0, .int .i64 ao, .int .i64 bo, .int .i64 co, .slice oa sl oc] 34 ∧ Mine w (W.alloc (.cells #[.int .i64 0, .int .i64 ao, .int .i64 bo, .int .i64 co, .slice oa sl oc] 34)) b v g ∧ Asc g.L i from ⟨heap_alloc_new _ _, HG.out.1.kept (World.grownBy_alloc _ _ none), HG.out.2⟩)
        have HCL := hid_mk (fun (W1 : World) (h : Blk W1 W.heap.size #[.int .i64 0, .int .i64 ao, .int .i64 bo, .int .i64 co, .slice oa sl oc] 34) => show W1.cell? ⟨W.heap.size, 0, none⟩ = some (.int .i64 0) ∧ W1.cell? ⟨W.heap.size, 1, none⟩ = some (.int .i64 ao) ∧ W1.cell? ⟨W.heap.size, 2, none⟩ = some (.int .i64 bo) from ⟨by rw [h.cell]; rfl, by rw [h.cell]; rfl, by rw [h.cell]; rfl⟩)
        go_wp2_with fail
        simp only [HB.out.1, HB.out.2, HC.out.1, HC.out.2]
        generalize (W.alloc (.cells #[.int .i64 0, .int .i64 ao, .int .i64 bo, .int .i64 co, .slice oa sl oc] 34)) = w3 at *
        refine (ask_any HX.out.2.1.1 i br cr (by have := HCb.out; omega)).mono ?_
        rintro e w4 ⟨rfl, hb4⟩
        have e0 := HX.out.2.2.new g rfl (by omega) br cr (by omega) (by omega)
        rw [e0]
        unfold askG at hb4
        rw [if_pos e0] at hb4
        obtain ⟨v4, hk4⟩ := HX.out.2.1.bp hb4
        have hbx : Blk w4 W.heap.size #[.int .i64 0, .int .i64 ao, .int .i64 bo, .int .i64 co, .slice oa sl oc] 34 := by
          obtain ⟨_, _, hkk, _⟩ := hb4
          exact HX.out.1.keeps hkk (fun hf => box_apart HX.out.2.1.1 HX.out.1 (by decide) (by decide) hf)
        have HT : Hid (∃ v g, Mine w w4 b v g ∧ Asc g.L (i + 1)) := hid_mk ⟨v4, _, hk4, HX.out.2.2.add br cr⟩
        obtain ⟨f0, f1, f2⟩ := HCL.out w4 hbx
        clear hb4 hk4 hbx e0 HX
        go_upto_region 19 with (go_at_call 10; refine (num_any _ _).mono ?_; rintro e w' ⟨rfl, hw⟩; rw [hw]; clear hw)
        clear f0 f1 f2
        go_wp2_with fail
        obtain ⟨v9, g9, hm9, ha9⟩ := HT.out
        have H9 := hid_mk (And.intro hm9 ha9)
        refine (waiting_any hm9.1).mono ?_
        rintro e w8 ⟨u8, rfl, hu8, hg8⟩
        obtain ⟨ua, uc, rfl⟩ := hu8.len
        have H8 := hid_mk (show IntsR w8 (.slice ua (ids g9.L).length uc) (ids g9.L) ∧ Mine w w8 b v9 g9 ∧ (ids g9.L).Pairwise (· < ·) ∧ (ids g9.L).length ≤ 91 from ⟨hu8.ints, hm9.kept hg8, ha9.up, by have := ha9.few; simp [ids]; omega⟩)
        have HT8 := hid_mk ha9
        clear hu8 hg8 hm9 ha9 H9 HT
        obtain ⟨l9, hl9⟩ : ∃ l9, l9 = ids g9.L := ⟨_, rfl⟩
        rw [← hl9] at H8 ⊢
        clear hl9
        have hl91 : l9.length ≤ 91 := H8.out.2.2.2
        go_wp2_with fail
        go_loopg [14] l9.length (fun gg jv W9 => ∃ j q : Nat, gg = l9.length - j ∧ (j = 0 ∨ j < l9.length) ∧ jv = .int .i64 ((j : Int) + 1) ∧ W9 = w8.drewN q)
        case atStart => exact ⟨0, 0, rfl, .inl rfl, rfl, rfl⟩
        case round =>
          obtain ⟨j, q, hgj, hj0, rfl, rfl⟩ := hrel
          by_cases hjl : j + 1 < l9.length
          · have hjl1 : (j : Int) + 1 < l9.length := by omega
            have hjl2 : (j : Int) < l9.length := by omega
            obtain ⟨bb, off2, cap2, e, _, hcc⟩ := H8.out.1.at (by omega)
            injection e with e1 e2 e3
            subst e1
            clear e2 e3
            have hc1 := hcc j l9[j] (by simp [show j < l9.length by omega])
            have hc2 := hcc (j + 1) l9[j + 1] (by simp [hjl])
            have hup := (List.pairwise_iff_getElem.1 H8.out.2.2.1) j (j + 1) (by omega) hjl (by omega)
            clear hcc
            generalize l9[j] = y1 at *
            generalize l9[j + 1] = y2 at *
            have hup' : ¬ y2 ≤ y1 := by omega
            have hji : ((j : Int) + 1) - 1 = j := by omega
            clear hup
            go_wp2_with fail
            go_quiet (fail)
            go_wp2_with fail
            go_roundg (l9.length - (j + 1))
            case measure => omega
            case rel => exact ⟨j + 1, _, rfl, .inr hjl, by go_num, by first | rfl | (rw [World.drewN_drewN])⟩
          · have hjl1 : ¬ (j : Int) + 1 < l9.length := by omega
            go_wp2_with fail
            go_roundg (90 - (i + 1))
            case measure => omega
            case rel => exact ⟨i + 1, by omega, by omega, rfl, by go_num, hid_mk ⟨v9, g9, H8.out.2.1.kept (grown_drewN _ _ none), HT8.out⟩⟩
      · have hk0 : (k == 0) = false := beq_eq_false_iff_ne.2 hk
        by_cases hk1 : k = 1
        · subst hk1
          have HX := hid_mk (show Blk (W.alloc (.cells #[.int .i64 1, .int .i64 ao, .int .i64 bo, .int .i64 co, .slice oa sl oc] 34)) W.heap.size #[.int .i64 1, .int .i64 ao, .int .i64 bo, .int .i64 co, .slice oa sl oc] 34 ∧ Mine w (W.alloc (.cells #[.int .i64 1, .int .i64 ao, .int .i64 bo, .int .i64 co, .slice oa sl oc] 34)) b v g ∧ Asc g.L i from ⟨heap_alloc_new _ _, HG.out.1.kept (World.grownBy_alloc _ _ none), HG.out.2⟩)
          have HCL := hid_mk (fun (W1 : World) (h : Blk W1 W.heap.size #[.int .i64 1, .int .i64 ao, .int .i64 bo, .int .i64 co, .slice oa sl oc] 34) => show W1.cell? ⟨W.heap.size, 0, none⟩ = some (.int .i64 1) ∧ W1.cell? ⟨W.heap.size, 1, none⟩ = some (.int .i64 ao) ∧ W1.cell? ⟨W.heap.size, 2, none⟩ = some (.int .i64 bo) from ⟨by rw [h.cell]; rfl, by rw [h.cell]; rfl, by rw [h.cell]; rfl⟩)
          go_wp2_with fail
          simp only [HD.out.1, HD.out.2, HB.out.1, HB.out.2]
          generalize (W.alloc (.cells #[.int .i64 1, .int .i64 ao, .int .i64 bo, .int .i64 co, .slice oa sl oc] 34)) = w3 at *
          refine (heard_any HX.out.2.1.1 ar br (by have := HBb.out; omega)).mono ?_
          rintro e w4 ⟨rfl, hb4⟩
          obtain ⟨v4, hk4⟩ := HX.out.2.1.bp hb4
          have hbx : Blk w4 W.heap.size #[.int .i64 1, .int .i64 ao, .int .i64 bo, .int .i64 co, .slice oa sl oc] 34 := by
            obtain ⟨_, _, hkk, _⟩ := hb4
            exact HX.out.1.keeps hkk (fun hf => box_apart HX.out.2.1.1 HX.out.1 (by decide) (by decide) hf)
          have hLL : (hearG g (ar : Int) (br : Int)).L = g.L := by unfold hearG; split <;> rfl
          have HT : Hid (∃ v g, Mine w w4 b v g ∧ Asc g.L (i + 1)) := hid_mk ⟨v4, _, hk4, by rw [hLL]; exact HX.out.2.2.more⟩
          generalize hearE (ar : Int) (br : Int) = he at *
          obtain ⟨f0, f1, f2⟩ := HCL.out w4 hbx
          clear hb4 hk4 hbx HX hLL
          go_upto_region 19 with fail
          clear f0 f1 f2
          go_wp2_with fail
          obtain ⟨v9, g9, hm9, ha9⟩ := HT.out
          have H9 := hid_mk (And.intro hm9 ha9)
          refine (waiting_any hm9.1).mono ?_
          rintro e w8 ⟨u8, rfl, hu8, hg8⟩
          obtain ⟨ua, uc, rfl⟩ := hu8.len
          have H8 := hid_mk (show IntsR w8 (.slice ua (ids g9.L).length uc) (ids g9.L) ∧ Mine w w8 b v9 g9 ∧ (ids g9.L).Pairwise (· < ·) ∧ (ids g9.L).length ≤ 91 from ⟨hu8.ints, hm9.kept hg8, ha9.up, by have := ha9.few; simp [ids]; omega⟩)
          have HT8 := hid_mk ha9
          clear hu8 hg8 hm9 ha9 H9 HT
          obtain ⟨l9, hl9⟩ : ∃ l9, l9 = ids g9.L := ⟨_, rfl⟩
          rw [← hl9] at H8 ⊢
          clear hl9
          have hl91 : l9.length ≤ 91 := H8.out.2.2.2
          go_wp2_with fail
          go_loopg [14] l9.length (fun gg jv W9 => ∃ j q : Nat, gg = l9.length - j ∧ (j = 0 ∨ j < l9.length) ∧ jv = .int .i64 ((j : Int) + 1) ∧ W9 = w8.drewN q)
          case atStart => exact ⟨0, 0, rfl, .inl rfl, rfl, rfl⟩
          case round =>
            obtain ⟨j, q, hgj, hj0, rfl, rfl⟩ := hrel
            by_cases hjl : j + 1 < l9.length
            · have hjl1 : (j : Int) + 1 < l9.length := by omega
              have hjl2 : (j : Int) < l9.length := by omega
              obtain ⟨bb, off2, cap2, e, _, hcc⟩ := H8.out.1.at (by omega)
              injection e with e1 e2 e3
              subst e1
              clear e2 e3
              have hc1 := hcc j l9[j] (by simp [show j < l9.length by omega])
              have hc2 := hcc (j + 1) l9[j + 1] (by simp [hjl])
              have hup := (List.pairwise_iff_getElem.1 H8.out.2.2.1) j (j + 1) (by omega) hjl (by omega)
              clear hcc
              generalize l9[j] = y1 at *
              generalize l9[j + 1] = y2 at *
              have hup' : ¬ y2 ≤ y1 := by omega
              have hji : ((j : Int) + 1) - 1 = j := by omega
              clear hup
              go_wp2_with fail
              go_quiet (fail)
              go_wp2_with fail
              go_roundg (l9.length - (j + 1))
              case measure => omega
              case rel => exact ⟨j + 1, _, rfl, .inr hjl, by go_num, by first | rfl | (rw [World.drewN_drewN])⟩
            · have hjl1 : ¬ (j : Int) + 1 < l9.length := by omega
              go_wp2_with fail
              go_roundg (90 - (i + 1))
              case measure => omega
              case rel => exact ⟨i + 1, by omega, by omega, rfl, by go_num, hid_mk ⟨v9, g9, H8.out.2.1.kept (grown_drewN _ _ none), HT8.out⟩⟩
        · have hk1' : (k == 1) = false := beq_eq_false_iff_ne.2 hk1
          by_cases hk2 : k = 2
          · subst hk2
            have HX := hid_mk (show Blk (W.alloc (.cells #[.int .i64 2, .int .i64 ao, .int .i64 bo, .int .i64 co, .slice oa sl oc] 34)) W.heap.size #[.int .i64 2, .int .i64 ao, .int .i64 bo, .int .i64 co, .slice oa sl oc] 34 ∧ Mine w (W.alloc (.cells #[.int .i64 2, .int .i64 ao, .int .i64 bo, .int .i64 co, .slice oa sl oc] 34)) b v g ∧ Asc g.L i from ⟨heap_alloc_new _ _, HG.out.1.kept (World.grownBy_alloc _ _ none), HG.out.2⟩)
            have HCL := hid_mk (fun (W1 : World) (h : Blk W1 W.heap.size #[.int .i64 2, .int .i64 ao, .int .i64 bo, .int .i64 co, .slice oa sl oc] 34) => show W1.cell? ⟨W.heap.size, 0, none⟩ = some (.int .i64 2) ∧ W1.cell? ⟨W.heap.size, 1, none⟩ = some (.int .i64 ao) ∧ W1.cell? ⟨W.heap.size, 2, none⟩ = some (.int .i64 bo) from ⟨by rw [h.cell]; rfl, by rw [h.cell]; rfl, by rw [h.cell]; rfl⟩)
            go_wp2_with fail
            generalize (W.alloc (.cells #[.int .i64 2, .int .i64 ao, .int .i64 bo, .int .i64 co, .slice oa sl oc] 34)) = w3 at *
            refine (ready_any HX.out.2.1.1 S _ (HS.out.kept HX.out.2.1.2)).mono ?_
            rintro e w4 ⟨u4, rfl, hu4, hb4⟩
            obtain ⟨v4, hk4⟩ := HX.out.2.1.bp hb4
            obtain ⟨xa, xc, rfl⟩ := row_shape hu4
            have HT : Hid (∃ v g, Mine w w4 b v g ∧ Asc g.L (i + 1)) := hid_mk ⟨v4, _, hk4, (HX.out.2.2.filt _).more⟩
            have HTA := hid_mk (show Asc (doneB S g) i from HX.out.2.2.filt _)
            have HY := hid_mk hu4
            have hdl : (doneB S g).length ≤ 90 := by have := HTA.out.few; omega
            clear hb4 hk4 HX hu4
            generalize doneB S g = D at *
            go_wp2_with fail
            go_loopg [12] D.length (fun gg jv W9 => ∃ j q : Nat, gg = D.length - j ∧ (j = 0 ∨ j < D.length) ∧ jv = .int .i64 ((j : Int) + 1) ∧ W9 = w4.drewN q)
            case atStart => exact ⟨0, 0, rfl, .inl rfl, rfl, rfl⟩
            case round =>
              obtain ⟨j, q, hgj, hj0, rfl, rfl⟩ := hrel
              by_cases hjl : j + 1 < D.length
              · have hjl1 : (j : Int) + 1 < D.length := by omega
                have hjl2 : (j : Int) < D.length := by omega
                obtain ⟨bb, cap2, e, hc1, _⟩ := HY.out.get j (by omega)
                injection e with e1 e2 e3
                subst e1
                clear e2 e3
                obtain ⟨bb2, cap3, e, hc2, _⟩ := HY.out.get (j + 1) hjl
                injection e with e1 e2 e3
                injection e1 with e1
                injection e1 with e1
                subst e1
                clear e2 e3
                have hup := HTA.out.at hjl
                generalize D[j].id = y1 at *
                generalize D[j + 1].id = y2 at *
                have hup' : ¬ y2 ≤ y1 := by omega
                have hji : ((j : Int) + 1) - 1 = j := by omega
                clear hup
                go_wp2_with fail
                go_quiet (fail)
                go_wp2_with fail
                go_roundg (D.length - (j + 1))
                case measure => omega
                case rel => exact ⟨j + 1, _, rfl, .inr hjl, by go_num, by first | rfl | (rw [World.drewN_drewN])⟩
              · have hjl1 : ¬ (j : Int) + 1 < D.length := by omega
                have HT2 : Hid (∃ v g, Mine w (w4.drewN q) b v g ∧ Asc g.L (i + 1)) := hid_mk (by obtain ⟨v, g, h1, h2⟩ := HT.out; exact ⟨v, g, h1.kept (grown_drewN _ _ none), h2⟩)
                clear HT
                generalize w4.drewN q = w5 at *
                go_upto_region 19 with fail
                go_wp2_with fail
                obtain ⟨v9, g9, hm9, ha9⟩ := HT2.out
                have H9 := hid_mk (And.intro hm9 ha9)
                refine (waiting_any hm9.1).mono ?_
                rintro e w8 ⟨u8, rfl, hu8, hg8⟩
                obtain ⟨ua, uc, rfl⟩ := hu8.len
                have H8 := hid_mk (show IntsR w8 (.slice ua (ids g9.L).length uc) (ids g9.L) ∧ Mine w w8 b v9 g9 ∧ (ids g9.L).Pairwise (· < ·) ∧ (ids g9.L).length ≤ 91 from ⟨hu8.ints, hm9.kept hg8, ha9.up, by have := ha9.few; simp [ids]; omega⟩)
                have HT8 := hid_mk ha9
                clear hu8 hg8 hm9 ha9 H9 HT2
                obtain ⟨l9, hl9⟩ : ∃ l9, l9 = ids g9.L := ⟨_, rfl⟩
                rw [← hl9] at H8 ⊢
                clear hl9
                have hl91 : l9.length ≤ 91 := H8.out.2.2.2
                go_wp2_with fail
                go_loopg [14] l9.length (fun gg jv W9 => ∃ j q : Nat, gg = l9.length - j ∧ (j = 0 ∨ j < l9.length) ∧ jv = .int .i64 ((j : Int) + 1) ∧ W9 = w8.drewN q)
                case atStart => exact ⟨0, 0, rfl, .inl rfl, rfl, rfl⟩
                case round =>
                  obtain ⟨j, q, hgj, hj0, rfl, rfl⟩ := hrel
                  by_cases hjl : j + 1 < l9.length
                  · have hjl1 : (j : Int) + 1 < l9.length := by omega
                    have hjl2 : (j : Int) < l9.length := by omega
                    obtain ⟨bb, off2, cap2, e, _, hcc⟩ := H8.out.1.at (by omega)
                    injection e with e1 e2 e3
                    subst e1
                    clear e2 e3
                    have hc1 := hcc j l9[j] (by simp [show j < l9.length by omega])
                    have hc2 := hcc (j + 1) l9[j + 1] (by simp [hjl])
                    have hup := (List.pairwise_iff_getElem.1 H8.out.2.2.1) j (j + 1) (by omega) hjl (by omega)
                    clear hcc
                    generalize l9[j] = y1 at *
                    generalize l9[j + 1] = y2 at *
                    have hup' : ¬ y2 ≤ y1 := by omega
                    have hji : ((j : Int) + 1) - 1 = j := by omega
                    clear hup
                    go_wp2_with fail
                    go_quiet (fail)
                    go_wp2_with fail
                    go_roundg (l9.length - (j + 1))
                    case measure => omega
                    case rel => exact ⟨j + 1, _, rfl, .inr hjl, by go_num, by first | rfl | (rw [World.drewN_drewN])⟩
                  · have hjl1 : ¬ (j : Int) + 1 < l9.length := by omega
                    go_wp2_with fail
                    go_roundg (90 - (i + 1))
                    case measure => omega
                    case rel => exact ⟨i + 1, by omega, by omega, rfl, by go_num, hid_mk ⟨v9, g9, H8.out.2.1.kept (grown_drewN _ _ none), HT8.out⟩⟩
          · have hk2' : (k == 2) = false := beq_eq_false_iff_ne.2 hk2
            have HX := hid_mk (show Blk (W.alloc (.cells #[.int .i64 k, .int .i64 ao, .int .i64 bo, .int .i64 co, .slice oa sl oc] 34)) W.heap.size #[.int .i64 k, .int .i64 ao, .int .i64 bo, .int .i64 co, .slice oa sl oc] 34 ∧ Mine w (W.alloc (.cells #[.int .i64 k, .int .i64 ao, .int .i64 bo, .int .i64 co, .slice oa sl oc] 34)) b v g ∧ Asc g.L i from ⟨heap_alloc_new _ _, HG.out.1.kept (World.grownBy_alloc _ _ none), HG.out.2⟩)
            have HCL := hid_mk (fun (W1 : World) (h : Blk W1 W.heap.size #[.int .i64 k, .int .i64 ao, .int .i64 bo, .int .i64 co, .slice oa sl oc] 34) => show W1.cell? ⟨W.heap.size, 0, none⟩ = some (.int .i64 k) ∧ W1.cell? ⟨W.heap.size, 1, none⟩ = some (.int .i64 ao) ∧ W1.cell? ⟨W.heap.size, 2, none⟩ = some (.int .i64 bo) from ⟨by rw [h.cell]; rfl, by rw [h.cell]; rfl, by rw [h.cell]; rfl⟩)
            clear hk hk1 hk2
            have HT : Hid (∃ v g, Mine w (W.alloc (.cells #[.int .i64 k, .int .i64 ao, .int .i64 bo, .int .i64 co, .slice oa sl oc] 34)) b v g ∧ Asc g.L (i + 1)) := hid_mk ⟨v, g, HX.out.2.1, HX.out.2.2.more⟩
            go_upto_region 19 with fail
            clear HX HCL
            generalize (W.alloc (.cells #[.int .i64 k, .int .i64 ao, .int .i64 bo, .int .i64 co, .slice oa sl oc] 34)) = w5 at *
            go_wp2_with fail
            obtain ⟨v9, g9, hm9, ha9⟩ := HT.out
            have H9 := hid_mk (And.intro hm9 ha9)
            refine (waiting_any hm9.1).mono ?_
            rintro e w8 ⟨u8, rfl, hu8, hg8⟩
            obtain ⟨ua, uc, rfl⟩ := hu8.len
            have H8 := hid_mk (show IntsR w8 (.slice ua (ids g9.L).length uc) (ids g9.L) ∧ Mine w w8 b v9 g9 ∧ (ids g9.L).Pairwise (· < ·) ∧ (ids g9.L).length ≤ 91 from ⟨hu8.ints, hm9.kept hg8, ha9.up, by have := ha9.few; simp [ids]; omega⟩)
            have HT8 := hid_mk ha9
            clear hu8 hg8 hm9 ha9 H9 HT
            obtain ⟨l9, hl9⟩ : ∃ l9, l9 = ids g9.L := ⟨_, rfl⟩
            rw [← hl9] at H8 ⊢
            clear hl9
            have hl91 : l9.length ≤ 91 := H8.out.2.2.2
            go_wp2_with fail
            go_loopg [14] l9.length (fun gg jv W9 => ∃ j q : Nat, gg = l9.length - j ∧ (j = 0 ∨ j < l9.length) ∧ jv = .int .i64 ((j : Int) + 1) ∧ W9 = w8.drewN q)
            case atStart => exact ⟨0, 0, rfl, .inl rfl, rfl, rfl⟩
            case round =>
              obtain ⟨j, q, hgj, hj0, rfl, rfl⟩ := hrel
              by_cases hjl : j + 1 < l9.length
              · have hjl1 : (j : Int) + 1 < l9.length := by omega
                have hjl2 : (j : Int) < l9.length := by omega
                obtain ⟨bb, off2, cap2, e, _, hcc⟩ := H8.out.1.at (by omega)
                injection e with e1 e2 e3
                subst e1
                clear e2 e3
                have hc1 := hcc j l9[j] (by simp [show j < l9.length by omega])
                have hc2 := hcc (j + 1) l9[j + 1] (by simp [hjl])
                have hup := (List.pairwise_iff_getElem.1 H8.out.2.2.1) j (j + 1) (by omega) hjl (by omega)
                clear hcc
                generalize l9[j] = y1 at *
                generalize l9[j + 1] = y2 at *
                have hup' : ¬ y2 ≤ y1 := by omega
                have hji : ((j : Int) + 1) - 1 = j := by omega
                clear hup
                go_wp2_with fail
                go_quiet (fail)
                go_wp2_with fail
                go_roundg (l9.length - (j + 1))
                case measure => omega
                case rel => exact ⟨j + 1, _, rfl, .inr hjl, by go_num, by first | rfl | (rw [World.drewN_drewN])⟩
              · have hjl1 : ¬ (j : Int) + 1 < l9.length := by omega
                go_wp2_with fail
                go_roundg (90 - (i + 1))
                case measure => omega
                case rel => exact ⟨i + 1, by omega, by omega, rfl, by go_num, hid_mk ⟨v9, g9, H8.out.2.1.kept (grown_drewN _ _ none), HT8.out⟩⟩
    · obtain ⟨v, g, hmine, hasc⟩ := H.out
      have HG := hid_mk hmine
      have hgl := hasc.few
      have HT : Hid (¬ (i < L ∧ i < 90)) := hid_mk hlt
      clear H hmine hasc hlt
      have hcase : ((i : Int) < L ∧ ¬ (i : Int) < 90) ∨ ¬ (i : Int) < L := by have := HT.out; omega
      clear HT
      rcases hcase with ⟨hq1, hq2⟩ | hq1
      all_goals
        go_wp2_with fail
        refine (waiting_any HG.out.1).mono ?_
        rintro e w5 ⟨u5, rfl, hu5, hg5⟩
        obtain ⟨ua, uc, rfl⟩ := hu5.len
        have H5 := hid_mk (And.intro hu5.ints (HG.out.kept hg5))
        have H5b := hid_mk hu5
        clear hu5 hg5
        go_wp2_with fail
        refine (clear_bp H5.out.2.1).mono ?_
        rintro e w6 ⟨u6, rfl, hu6, hb6⟩
        obtain ⟨xa, xc, rfl⟩ := hu6.len
        obtain ⟨v6, hk6⟩ := H5.out.2.bp hb6
        have hu5' : IntsR w6 (.slice ua (ids g.L).length uc) (ids g.L) := by
          obtain ⟨_, _, hkk, _⟩ := hb6
          exact (OwnI.keeps H5.out.2.1 H5b.out hkk).ints
        have H6 := hid_mk (And.intro hu6.ints (And.intro hu5' hk6))
        clear hu6 hb6 hk6 hu5'
        go_wp2_with fail
        refine (ints_same _ _ (ids g.L) w6 H6.out.1 H6.out.2.1 (by simp [ids]; omega)).mono ?_
        rintro e w7 ⟨rfl, hg7⟩
        have H7 := hid_mk (H6.out.2.2.kept hg7)
        clear hg7
        go_wp2_with fail
        refine (waiting_any H7.out.1).mono ?_
        rintro e w8 ⟨u8, rfl, hu8, hg8⟩
        rw [show ids (newB g.me).L = [] from rfl] at hu8
        obtain ⟨ya, yc, rfl⟩ := hu8.len
        have H8 := hid_mk (grown_trans H7.out.2 hg8)
        clear hu8 hg8
        rw [show ([] : List Int).length = 0 from rfl]
        go_wp2_with fail
        go_ret
        exact ⟨rfl, H8.out⟩
end Go.Proofs.Ythfdoliojbhcjaa
