/- MessageCopies: its walk. -/
import Derived.Test.YtliefofdlpljaaaDoorMp
import Derived.Test.YtliefofdlpljaaaDoorCp
import Derived.Test.YtliefofdlpljaaaDoorCw0
namespace Go.Proofs.YtliefofdlpljaaaDoor
open Go.RowKit Go.Maps
set_option linter.unusedVariables false
set_option linter.unusedSimpArgs false

theorem copyM_in (m : Msg) (ev sv dv : Value) (w : World) (h : MsgIn w m ev sv dv) : Calls Tryd.prog 19 #[.agg (msgCells m ev sv dv)] w fun e w' => ∃ ev' sv' dv' es, e = .returned (.agg (msgCells m ev' sv' dv')) ∧ es.map (·.1) = m.ents ∧ EO w w' ev' es ∧ OwnI w' w.heap.size sv' m.srv ∧ Own w' w.heap.size dv' m.data ∧ w.grownBy w' none :=
  copyM_any m ev sv dv w h.e h.s h.d h.ne h.ns (by have := h.nd; omega)

set_option maxRecDepth 100000 in
set_option maxHeartbeats 8000000 in
theorem copies_any (m : Msg) (ev sv dv : Value) (w : World) (h : MsgIn w m ev sv dv) (hsp : Spans w) :
    Calls Tryd.prog 5 #[.agg (msgCells m ev sv dv)] w fun e w' => e = .returned (.bool true) ∧ w.grownBy w' none := by
  have q1 := h.slices
  have HI := hid_mk h
  have HP := hid_mk hsp
  have bne := h.ne
  have bns := h.ns
  have bnd := h.nd
  clear h hsp
  obtain ⟨a1, n1, c1, a2, n2, c2, a3, n3, c3, rfl, rfl, rfl⟩ := q1
  have HF : Hid (MB (w.alloc (.cells (msgCells m (.slice a1 n1 c1) (.slice a2 n2 c2) (.slice a3 n3 c3)) 26)) 26 w.heap.size m (.slice a1 n1 c1) (.slice a2 n2 c2) (.slice a3 n3 c3) ∧ w.grownBy (w.alloc (.cells (msgCells m (.slice a1 n1 c1) (.slice a2 n2 c2) (.slice a3 n3 c3)) 26)) none) := hid_mk ⟨heap_alloc_new w _, World.grownBy_alloc _ _ _⟩
  unfold msgCells at HF
  unfold msgCells
  go_enter Tryd.func5, Tryd.ntmps5
  go_wp2_with fail
  generalize (w.alloc (.cells _ 26)) = w1 at *
  refine (ownM_in m _ _ _ w1 (HI.out.kept HF.out.2)).mono ?_
  rintro e w2 ⟨e2, s2, t2, rfl, hi2, hg2⟩
  have q2 := hi2.slices
  have H2 := hid_mk (And.intro hi2 hg2)
  clear hi2 hg2
  obtain ⟨b1, k1, d1, b2, k2, d2, b3, k3, d3, rfl, rfl, rfl⟩ := q2
  have HX : Hid (MB (w2.alloc (.cells (msgCells m (.slice b1 k1 d1) (.slice b2 k2 d2) (.slice b3 k3 d3)) 27)) 27 w2.heap.size m (.slice b1 k1 d1) (.slice b2 k2 d2) (.slice b3 k3 d3) ∧ w2.grownBy (w2.alloc (.cells (msgCells m (.slice b1 k1 d1) (.slice b2 k2 d2) (.slice b3 k3 d3)) 27)) none) := hid_mk ⟨heap_alloc_new w2 _, World.grownBy_alloc _ _ _⟩
  unfold msgCells at HX
  unfold msgCells
  go_wp2_with fail
  generalize (w2.alloc (.cells _ 27)) = w3 at *
  generalize w2.heap.size = g3 at *
  have H3 := hid_mk (And.intro (H2.out.1.kept HX.out.2) (grown_trans H2.out.2 HX.out.2))
  have HX3 := hid_mk HX.out.1
  clear HX H2
  refine (copyM_in m _ _ _ w3 H3.out.1).mono ?_
  rintro e w4 ⟨e4, s4, t4, es, rfl, hes, heo, hoi, hob, hg4⟩
  obtain ⟨f1, u1, e1'⟩ := row_shape heo.row
  rw [show es.length = m.ents.length by rw [← hes, List.length_map]] at e1'
  subst e1'
  obtain ⟨f2, u2, e2'⟩ := hoi.len
  subst e2'
  obtain ⟨f3, u3, e3'⟩ := hob.len
  subst e3'
  have HX4 : Hid (MB (w4.alloc (.cells (msgCells m (.slice f1 m.ents.length u1) (.slice f2 m.srv.length u2) (.slice f3 m.data.length u3)) 27)) 27 w4.heap.size m (.slice f1 m.ents.length u1) (.slice f2 m.srv.length u2) (.slice f3 m.data.length u3) ∧ w4.grownBy (w4.alloc (.cells (msgCells m (.slice f1 m.ents.length u1) (.slice f2 m.srv.length u2) (.slice f3 m.data.length u3)) 27)) none) := hid_mk ⟨heap_alloc_new w4 _, World.grownBy_alloc _ _ _⟩
  have HL := hid_mk (And.intro (LP.of HX4.out.1 hes heo hoi hob HX4.out.2) (show MsgIn w4 m (.slice f1 m.ents.length u1) (.slice f2 m.srv.length u2) (.slice f3 m.data.length u3) from ⟨by have := heo.reads; rw [hes] at this; exact this, hoi.ints, hob.byt, bne, bns, bnd⟩))
  generalize (es.map fun p => (p.2, p.1.data.length)) = ds at *
  clear hes heo hoi hob
  unfold msgCells at HX4 HL
  unfold msgCells
  go_upto_region 3 with fail
  generalize (w4.alloc (.cells _ 27)) = w5 at *
  generalize w4.heap.size = gy at *
  have HL5 := hid_mk HL.out.1
  have HM5 := hid_mk (HL.out.2.kept HX4.out.2)
  clear HL HX4 hg4
  obtain ⟨p0, p1, p2, p3, p4, p5, p6, p7, p8, p9, p10, p11⟩ := (HF.out.1.kept (grown_trans H3.out.2 HL5.out.gr)).all
  obtain ⟨z0, z1, z2, z3, z4, z5, z6, z7, z8, z9, z10, z11⟩ := HL5.out.mb.all
  go_wp2_with fail
  clear p0 p1 p2 p3 p4 p5 p6 p7 p8 p9 p10 p11 z0 z1 z2 z3 z4 z5 z6 z7 z8 z9 z10 z11
  refine (sameM_in m m true (by simp) _ _ _ _ _ _ w5 HM5.out (HI.out.kept (grown_trans HF.out.2 (grown_trans H3.out.2 HL5.out.gr)))).mono ?_
  rintro e w6 ⟨rfl, hg6⟩
  have H6 := hid_mk (HL5.out.kept hg6)
  clear hg6 HL5 HM5
  go_wp2_with fail
  refine (knowsM_any w6 (HP.out.kept (grown_trans HF.out.2 (grown_trans H3.out.2 H6.out.gr)))).mono ?_
  rintro e w7 ⟨rfl, hg7⟩
  have H7 := hid_mk (H6.out.kept hg7)
  clear hg7 H6
  go_wp2_with fail
  go_loopw [5] (fun iv W => ∃ k : Nat, k ≤ m.data.length ∧ iv = .int .i64 k ∧ Hid (LP w3 W gy m (.slice f1 m.ents.length u1) (.slice f2 m.srv.length u2) (.slice f3 m.data.length u3) ds)) (fun iv _ => m.data.length - (intOf iv).toNat)
  case atStart => exact ⟨0, Nat.zero_le _, rfl, H7⟩
  case round =>
    obtain ⟨k, hk, rfl, H⟩ := hrel
    rename World => w8
    clear H7
    by_cases hlt : k < m.data.length
    · obtain ⟨g, cur, cc, eg, hlo, hb, hfz, hcl⟩ := H.out.d.at (by omega)
      injection eg with eg1 _ eg2
      subst eg1
      subst eg2
      obtain ⟨u, hu, ⟨x, rfl⟩⟩ := hcl k (by omega)
      have hz := hfz k
      have q11 := H.out.mb.rest.2.2.2.1
      have HB := hid_mk (And.intro hb hlo)
      clear hb hlo hfz hcl
      go_wp2_with fail
      go_region
      have H9 := hid_mk ((H.out.set (i := k) (u := .int .u8 ((x + 1) % 256)) HB.out.1 HB.out.2 (by decide) (fun _ => ⟨_, rfl⟩) (fun h => absurd h (by decide)) (fun h => absurd h (by decide))).kept (grown_drew _ none))
      generalize (w8.setCell ⟨g, k, none⟩ (.int .u8 ((x + 1) % 256))).drew = w9 at *
      clear hu hz q11 HB H
      go_wp2_with fail
      go_roundw
      case rel => exact ⟨k + 1, by omega, by go_num, H9⟩
      case measure => simp [intOf]; omega
    · have q11 := H.out.mb.rest.2.2.2.1
      go_wp2_with fail
      clear q11
      go_loopw [6] (fun iv W => ∃ k : Nat, k ≤ m.srv.length ∧ iv = .int .i64 k ∧ Hid (LP w3 W gy m (.slice f1 m.ents.length u1) (.slice f2 m.srv.length u2) (.slice f3 m.data.length u3) ds)) (fun iv _ => m.srv.length - (intOf iv).toNat)
      case atStart => exact ⟨0, Nat.zero_le _, rfl, H⟩
      case round =>
        clear hk hlt H
        obtain ⟨k, hk, rfl, H⟩ := hrel
        rename World => w9
        by_cases hlt : k < m.srv.length
        · obtain ⟨g, cur, cc, eg, hlo, hb, hfz, hcl⟩ := H.out.s.at (by omega)
          injection eg with eg1 _ eg2
          subst eg1
          subst eg2
          obtain ⟨u, hu, ⟨x, rfl⟩⟩ := hcl k (by omega)
          have hz := hfz k
          have q10 := H.out.mb.rest.2.2.1
          have H9 := hid_mk (H.out.set (i := k) (u := .int .i64 (-1)) hb hlo (by decide) (fun h => absurd h (by decide)) (fun _ => ⟨_, rfl⟩) (fun h => absurd h (by decide)))
          clear hb hlo hfz hcl
          go_upto_region 11 with fail
          generalize w9.setCell ⟨g, k, none⟩ (.int .i64 (-1)) = w10 at *
          clear hu hz q10 H
          go_wp2_with fail
          go_roundw
          case rel => exact ⟨k + 1, by omega, by go_num, H9⟩
          case measure => simp [intOf]; omega
        · have q10 := H.out.mb.rest.2.2.1
          go_wp2_with fail
          clear q10
          go_loopw [7] (fun iv W => ∃ k : Nat, k ≤ m.ents.length ∧ iv = .int .i64 k ∧ Hid (LP w3 W gy m (.slice f1 m.ents.length u1) (.slice f2 m.srv.length u2) (.slice f3 m.data.length u3) ds)) (fun iv _ => m.ents.length - (intOf iv).toNat)
          case atStart => exact ⟨0, Nat.zero_le _, rfl, H⟩
          case round =>
            clear hk hlt H
            obtain ⟨k, hk, rfl, H⟩ := hrel
            rename World => w10
            by_cases hlt : k < m.ents.length
            · have q9 := H.out.mb.rest.2.1
              obtain ⟨g, cur, cc, eg, hlo, hb, hfz, hcl⟩ := H.out.e.at (by omega)
              injection eg with eg1 _ eg2
              subst eg1
              subst eg2
              obtain ⟨u, hu, hp, _⟩ := hcl (k * 4 + 3) (by omega)
              obtain ⟨q, hq, rfl⟩ := hp (by omega)
              have hq : ds[k]? = some q := by rw [show k = (k * 4 + 3) / 4 by omega]; exact hq
              have HQ := hid_mk hq
              obtain ⟨dv, dn⟩ := q
              have hdn : dn ≤ 140737488355328 := (H.out.each _ (List.mem_of_getElem? hq)).2
              obtain ⟨da, dc, rfl⟩ : ∃ a c, dv = .slice a dn c := by
                obtain ⟨a, c, e, _⟩ := (H.out.each _ (List.mem_of_getElem? hq)).1
                exact ⟨a, c, e⟩
              clear hq hp hb hlo hfz hcl hu cur
              go_wp2_with fail
              clear q9
              go_loopw [8] (fun iv W => ∃ j : Nat, j ≤ dn ∧ iv = .int .i64 j ∧ Hid (LP w3 W gy m (.slice (some ⟨g, 0, none⟩) m.ents.length u1) (.slice f2 m.srv.length u2) (.slice f3 m.data.length u3) ds)) (fun iv _ => dn - (intOf iv).toNat)
              case atStart => exact ⟨0, Nat.zero_le _, rfl, H⟩
              case round =>
                clear H
                obtain ⟨j, hj, rfl, H⟩ := hrel
                rename World => w11
                have q9 := H.out.mb.rest.2.1
                obtain ⟨g', cur, cc, eg, hlo, hb, hfz, hcl⟩ := H.out.e.at (by omega)
                cases eg
                have c3 : w11.cell? ⟨g, k * 4 + 3, none⟩ = some (.slice da dn dc) := by
                  obtain ⟨u, hu, hp, _⟩ := hcl (k * 4 + 3) (by omega)
                  obtain ⟨q, hq, rfl⟩ := hp (by omega)
                  rw [show (k * 4 + 3) / 4 = k by omega, HQ.out] at hq
                  cases hq
                  exact hu
                by_cases hjt : j < dn
                · obtain ⟨gd, curd, cd, egd, hlod, hbd, hfzd, hcld⟩ := (H.out.each _ (List.mem_of_getElem? HQ.out)).1.at (show 0 < dn by omega)
                  cases egd
                  obtain ⟨u, hu, ⟨x, rfl⟩⟩ := hcld j (by omega)
                  have hz := hfzd j
                  have H9 := hid_mk (H.out.set (i := j) (u := .int .u8 0) hbd hlod (by decide) (fun _ => ⟨_, rfl⟩) (fun h => absurd h (by decide)) (fun h => absurd h (by decide)))
                  clear hb hlo hfz hcl hbd hlod hfzd hcld
                  go_upto_region 18 with fail
                  generalize w11.setCell ⟨gd, j, none⟩ (.int .u8 0) = w12 at *
                  clear hu hz q9 H c3
                  go_wp2_with fail
                  go_roundw
                  case rel => exact ⟨j + 1, by omega, by go_num, H9⟩
                  case measure => simp [intOf]; omega
                · obtain ⟨u, hu, _, hp⟩ := hcl (k * 4) (by omega)
                  obtain ⟨x, rfl⟩ := hp (by omega)
                  have hz := hfz (k * 4)
                  have H9 := hid_mk (H.out.set (i := k * 4) (u := .int .i64 (-1)) hb hlo (by decide) (fun h => absurd h (by decide)) (fun h => absurd h (by decide)) (fun _ => ⟨fun h => by omega, fun _ => ⟨_, rfl⟩⟩))
                  clear hb hlo hfz hcl
                  go_upto_region 15 with fail
                  generalize w11.setCell ⟨g, k * 4, none⟩ (.int .i64 (-1)) = w12 at *
                  clear hu hz q9 H c3
                  go_wp2_with fail
                  go_roundw
                  case rel => exact ⟨k + 1, by omega, by go_num, H9⟩
                  case measure => simp [intOf]; omega
            · have q9 := H.out.mb.rest.2.1
              go_upto_region 21 with fail
              clear q9
              obtain ⟨p0, p1, p2, p3, p4, p5, p6, p7, p8, p9, p10, p11⟩ := (HF.out.1.kept (grown_trans H3.out.2 H.out.gr)).all
              obtain ⟨z0, z1, z2, z3, z4, z5, z6, z7, z8, z9, z10, z11⟩ := (HX3.out.kept H.out.gr).all
              go_wp2_with fail
              clear p0 p1 p2 p3 p4 p5 p6 p7 p8 p9 p10 p11 z0 z1 z2 z3 z4 z5 z6 z7 z8 z9 z10 z11
              refine (sameM_in m m true (by simp) _ _ _ _ _ _ w10 (H3.out.1.kept H.out.gr) (HI.out.kept (grown_trans HF.out.2 (grown_trans H3.out.2 H.out.gr)))).mono ?_
              rintro e w11 ⟨rfl, hg11⟩
              have G11 := hid_mk (grown_trans HF.out.2 (grown_trans H3.out.2 (grown_trans H.out.gr hg11)))
              clear hg11
              go_wp2_with fail
              go_ret
              exact ⟨rfl, G11.out⟩

end Go.Proofs.YtliefofdlpljaaaDoor
