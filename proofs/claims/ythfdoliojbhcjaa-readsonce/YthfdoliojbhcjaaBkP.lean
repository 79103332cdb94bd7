/- ReadsOnce. -/
import Derived.Test.YthfdoliojbhcjaaBkPb
namespace Go.Proofs.Ythfdoliojbhcjaa
open Go.RowKit Go.Maps
set_option linter.unusedVariables false
set_option linter.unusedSimpArgs false
set_option maxRecDepth 100000

theorem boxO_apart {W : World} {B b : Nat} {v : Value} {g : Bk} (h : IsB W B b v g) {q : Nat} {cs : Array Value} {t : TypeId} (hq : Blk W q cs t) (h1 : t ≠ 45) (h2 : t ≠ 66) : ¬ Ofb b v q := fun hf => by
  rcases hf with rfl | hf
  · exact hq.ne h.blk h1 rfl
  · exact own_ne h.row hq h2 hf.symm
theorem map_box {W : World} {mi n : Nat} {f : Int → Option Int} {sz : Nat} (hm : MapR W mi n f sz) {q : Nat} {cs : Array Value} {t : TypeId} (hq : Blk W q cs t) : some q ≠ some mi := fun e => by
  injection e with e
  obtain ⟨D, h1⟩ := hm
  exact map_blk h1.own hq e.symm
theorem run_makeMap47 (w : World) : (Instr.makeMap 47 none).run Try.prog w = .ok (.map (some w.heap.size)) (w.alloc (.map #[] 0)) := by
  simp [Instr.makeMap, run_underlying Try.underlying47, asInt, asIntOf, Result.andThen]
theorem lit_wf {x : Int} (h0 : 0 ≤ x) (h1 : x < 1000) : (Lit.int .i64 x).wf = true := key_wf h0 h1
/-- What is kept of both maps. -/
theorem maps_bp {W W' : World} {B b : Nat} {v : Value} {g g' : Bk} (h : IsB W B b v g) (hb : BP W W' B b v g') {mi n : Nat} {f : Int → Option Int} {sz : Nat} (hm : MapR W mi n f sz) : MapR W' mi n f sz := by
  obtain ⟨_, _, hk, _⟩ := hb
  exact hm.keeps hk (hm.apart h)
set_option maxHeartbeats 8000000 in
theorem readsOnce_walk (me : Int) (lv sv : Value) (L : Nat) (S : List Int) (w : World) (hO : OpsIn w lv L) (hS : Nums w sv S) : Calls Try.prog 5 #[.int .i64 me, lv, sv] w fun e w' => e = .returned (.bool true) ∧ w.grownBy w' none := by
  obtain ⟨la, lc, rfl⟩ := hO.1
  obtain ⟨sa, sc, rfl⟩ := hS.1.len
  have hL := hO.2.1
  have HO := hid_mk hO
  have HS := hid_mk hS
  clear hO hS
  have HA : Hid (wrap64 (me.tmod 16 + 16) = me.tmod 16 + 16 ∧ (me.tmod 16 + 16).tmod 16 = (rst me 16 : Int)) := hid_mk (rem_lit me 16 (by omega) (by omega))
  have HM := hid_mk (rst_lt me (show 1 ≤ 16 by omega))
  generalize rst me 16 = m at *
  have hmm := run_makeMap47
  go_enter Try.func5, Try.ntmps5
  go_wp2_with fail
  simp only [HA.out.1, HA.out.2]
  refine (m_new (grown_refl w none) m HM.out).mono ?_
  rintro e w1 ⟨b, rfl, h1⟩
  have H1 := hid_mk h1
  clear h1 HA
  go_wp2_with (go_at_call 10; refine (num_any _ _).mono ?_; rintro e w' ⟨rfl, hw⟩; rw [hw]; clear hw)
  refine (knows_any w1).mono ?_
  rintro e w2 ⟨rfl, hg⟩
  have H2 := hid_mk (H1.out.kept hg)
  clear hg H1
  go_upto_region 7 with fail
  have H3 := hid_mk (show OnceI w ((w2.alloc (.map #[] 0)).alloc (.map #[] 0)) b w2.heap.size (w2.heap.size + 1) 0 ∧ w.heap.size ≤ w2.heap.size from by
    refine ⟨⟨_, newB m, 0, 0, (fun _ => none), 0, (H2.out.kept (World.grownBy_alloc _ _ none)).kept (World.grownBy_alloc _ _ none), ⟨List.Pairwise.nil, by simp [newB], by simp [newB]⟩, by omega, by omega, ((map_new w2).kept (World.grownBy_alloc _ _ none) (by simp)).cast (by funext x; rfl) rfl, ?_, fun r hr => by simp [newB] at hr, fun x _ => rfl⟩, H2.out.2.size⟩
    have := map_new (w2.alloc (.map #[] 0))
    simpa using this)
  clear H2 hmm
  generalize (w2.alloc (.map #[] 0)).alloc (.map #[] 0) = w3 at *
  generalize w2.heap.size = mi at *
  go_wp2_with fail
  go_loopg [11] 90 (fun gg iv W => ∃ i : Nat, i ≤ 90 ∧ i ≤ L ∧ gg = 90 - i ∧ iv = .int .i64 i ∧ Hid (OnceI w W b mi (mi + 1) i))
  case atStart => exact ⟨0, by omega, by omega, rfl, rfl, hid_mk H3.out.1⟩
  case round =>
    obtain ⟨i, hi, hiL, hgk, rfl, H⟩ := hrel
    rename World => W
    have HMI := hid_mk H3.out.2
    clear H3
    by_cases hlt : i < L ∧ i < 90
    · have hlt1 : (i : Int) < L := by omega
      have hlt2 : (i : Int) < 90 := by omega
      obtain ⟨v, g, ni, nr, fr, sr, hmine, hasc, hni, hnr, hmi, hmr, hrd⟩ := H.out.ex
      have HG := hid_mk (And.intro hmine (And.intro hasc (And.intro hmi (And.intro hmr hrd))))
      obtain ⟨gb, off, hix, o, c0, c1, c2, c3, c4, ook⟩ := (HO.out.kept hmine.2).2.2 i hlt.1
      obtain ⟨oa, oc, hosv⟩ := ook.1.1.len
      rw [hosv] at c4
      clear hosv ook hmine hasc H hmi hmr hrd
      generalize o.k = k at *
      generalize o.a = ao at *
      generalize o.b = bo at *
      generalize o.c = co at *
      generalize o.S.length = sl at *
      have HB : Hid (wrap64 (bo.tmod 100 + 100) = bo.tmod 100 + 100 ∧ (bo.tmod 100 + 100).tmod 100 = (rst bo 100 : Int)) := hid_mk (rem_lit bo 100 (by omega) (by omega))
      have HB2 : Hid (wrap64 (bo.tmod 20 + 20) = bo.tmod 20 + 20 ∧ (bo.tmod 20 + 20).tmod 20 = (rst bo 20 : Int)) := hid_mk (rem_lit bo 20 (by omega) (by omega))
      have HC : Hid (wrap64 (co.tmod 20 + 20) = co.tmod 20 + 20 ∧ (co.tmod 20 + 20).tmod 20 = (rst co 20 : Int)) := hid_mk (rem_lit co 20 (by omega) (by omega))
      have HD : Hid (wrap64 (ao.tmod 16 + 16) = ao.tmod 16 + 16 ∧ (ao.tmod 16 + 16).tmod 16 = (rst ao 16 : Int)) := hid_mk (rem_lit ao 16 (by omega) (by omega))
      have HBb := hid_mk (rst_lt bo (show 1 ≤ 100 by omega))
      have HB2b := hid_mk (rst_lt bo (show 1 ≤ 20 by omega))
      have HCb := hid_mk (rst_lt co (show 1 ≤ 20 by omega))
      have HDb := hid_mk (rst_lt ao (show 1 ≤ 16 by omega))
      generalize rst bo 100 = br at *
      generalize rst bo 20 = br2 at *
      generalize rst co 20 = cr at *
      generalize rst ao 16 = ar at *
      by_cases hk : k = 0
      · subst hk
        have gA := World.grownBy_alloc W (.cells #[.int .i64 0, .int .i64 ao, .int .i64 bo, .int .i64 co, .slice oa sl oc] 34) none
        have HX := hid_mk (show Blk (W.alloc (.cells #[.int .i64 0, .int .i64 ao, .int .i64 bo, .int .i64 co, .slice oa sl oc] 34)) W.heap.size #[.int .i64 0, .int .i64 ao, .int .i64 bo, .int .i64 co, .slice oa sl oc] 34 ∧ Mine w (W.alloc (.cells #[.int .i64 0, .int .i64 ao, .int .i64 bo, .int .i64 co, .slice oa sl oc] 34)) b v g ∧ Asc g.L i ∧ MapR (W.alloc (.cells #[.int .i64 0, .int .i64 ao, .int .i64 bo, .int .i64 co, .slice oa sl oc] 34)) mi ni (ixF g.L) g.L.length ∧ MapR (W.alloc (.cells #[.int .i64 0, .int .i64 ao, .int .i64 bo, .int .i64 co, .slice oa sl oc] 34)) (mi + 1) nr fr sr ∧ RdOf fr g.L i from ⟨heap_alloc_new _ _, HG.out.1.kept gA, HG.out.2.1, HG.out.2.2.1.kept gA (by simp), HG.out.2.2.2.1.kept gA (by simp), HG.out.2.2.2.2⟩)
        have HCL := hid_mk (fun (W1 : World) (h : Blk W1 W.heap.size #[.int .i64 0, .int .i64 ao, .int .i64 bo, .int .i64 co, .slice oa sl oc] 34) => show W1.cell? ⟨W.heap.size, 0, none⟩ = some (.int .i64 0) ∧ W1.cell? ⟨W.heap.size, 1, none⟩ = some (.int .i64 ao) ∧ W1.cell? ⟨W.heap.size, 2, none⟩ = some (.int .i64 bo) ∧ W1.cell? ⟨W.heap.size, 3, none⟩ = some (.int .i64 co) from ⟨by rw [h.cell]; rfl, by rw [h.cell]; rfl, by rw [h.cell]; rfl, by rw [h.cell]; rfl⟩)
        clear gA
        go_wp2_with fail
        simp only [HB.out.1, HB.out.2, HC.out.1, HC.out.2]
        generalize (W.alloc (.cells #[.int .i64 0, .int .i64 ao, .int .i64 bo, .int .i64 co, .slice oa sl oc] 34)) = w3 at *
        refine (ask_any HX.out.2.1.1 i br cr (by have := HCb.out; omega)).mono ?_
        rintro e w4 ⟨rfl, hb4⟩
        have e0 := HX.out.2.2.1.new g rfl (by omega) br cr (by omega) (by omega)
        rw [e0]
        unfold askG at hb4
        rw [if_pos e0] at hb4
        obtain ⟨v4, hk4⟩ := HX.out.2.1.bp hb4
        have hbx : Blk w4 W.heap.size #[.int .i64 0, .int .i64 ao, .int .i64 bo, .int .i64 co, .slice oa sl oc] 34 := by
          obtain ⟨_, _, hkk, _⟩ := hb4
          exact HX.out.1.keeps hkk (fun hf => boxO_apart HX.out.2.1.1 HX.out.1 (by decide) (by decide) hf)
        have H4 := hid_mk (show Blk w4 W.heap.size #[.int .i64 0, .int .i64 ao, .int .i64 bo, .int .i64 co, .slice oa sl oc] 34 ∧ Mine w w4 b v4 (addB g ⟨i, br, cr⟩) ∧ MapR w4 mi ni (ixF g.L) g.L.length ∧ MapR w4 (mi + 1) nr fr sr from ⟨hbx, hk4, maps_bp HX.out.2.1.1 hb4 HX.out.2.2.2.1, maps_bp HX.out.2.1.1 hb4 HX.out.2.2.2.2.1⟩)
        have HP := hid_mk (And.intro HX.out.2.2.1 HX.out.2.2.2.2.2)
        obtain ⟨f0, f1, f2, f3⟩ := HCL.out w4 hbx
        clear hb4 hk4 hbx e0 HX
        have hk3 := keyOf_int_mk Try.underlying3 (lit_wf (show (0 : Int) ≤ (i : Int) by omega) (by omega))
        obtain ⟨D, hD⟩ := H4.out.2.2.1
        have HDD := hid_mk hD
        have hD1 := hD.own
        clear hD
        go_upto_region 17 with (first
          | (go_at_call 10; refine (num_any _ _).mono ?_; rintro e w' ⟨rfl, hw⟩; rw [hw]; clear hw)
          | (at_mapUpdate; simp only [HB.out.1, HB.out.2]; refine wpList_mapUpdate_own _ rfl _ _ _ 47 rfl 3 3 key3 Try.underlying47 _ mi ni D rfl hD1 (by unfold maxLen; omega) _ _ _ rfl rfl hk3 _ [] (plainElem_int Try.underlying3 (lit_wf (show (0 : Int) ≤ (br : Int) by omega) (by have := HBb.out; omega))) ?_; intro w5 hown5 hg5))
        have H5 := hid_mk (show Blk w5 W.heap.size #[.int .i64 0, .int .i64 ao, .int .i64 bo, .int .i64 co, .slice oa sl oc] 34 ∧ Mine w w5 b v4 (addB g ⟨i, br, cr⟩) ∧ MapR w5 mi (ni + 1) (ixF (addB g ⟨i, br, cr⟩).L) (addB g ⟨i, br, cr⟩).L.length ∧ MapR w5 (mi + 1) nr fr sr from
          ⟨H4.out.1.kept hg5 (map_box H4.out.2.2.1 H4.out.1), H4.out.2.1.turn H4.out.2.2.1 HMI.out hg5,
           (HDD.out.put (ixF_none (fun r hr e => by have := HP.out.1.below r hr; omega)) hown5).cast (ixF_add HP.out.1 br cr).symm (by show _ = (g.L ++ [(⟨i, br, cr⟩ : Rd)]).length; simp),
           H4.out.2.2.2.kept hg5 (by simp)⟩)
        clear f0 f1 f2 f3 hown5 hg5 hD1 HDD H4
        obtain ⟨f0, f1, f2, f3⟩ := HCL.out w5 H5.out.1
        obtain ⟨D2, hD⟩ := H5.out.2.2.2
        have HDD := hid_mk hD
        have hD2 := hD.own
        clear hD
        go_wp2_with (at_mapUpdate; simp only [HC.out.1, HC.out.2]; refine wpList_mapUpdate_own _ rfl _ _ _ 47 rfl 3 3 key3 Try.underlying47 _ (mi + 1) nr D2 rfl hD2 (by unfold maxLen; omega) _ _ _ rfl rfl hk3 _ [] (plainElem_int Try.underlying3 (lit_wf (show (0 : Int) ≤ (cr : Int) by omega) (by have := HCb.out; omega))) ?_; intro w6 hown6 hg6)
        go_roundg (90 - (i + 1))
        case measure => omega
        case rel => exact ⟨i + 1, by omega, by omega, rfl, by go_num, hid_mk ⟨v4, addB g ⟨i, br, cr⟩, ni + 1, nr + 1, _, sr + 1, H5.out.2.1.turn H5.out.2.2.2 (by have := HMI.out; omega) hg6, HP.out.1.add br cr, by omega, by omega, H5.out.2.2.1.kept hg6 (by simp), HDD.out.put (HP.out.2.2 _ (Int.le_refl _)) hown6, HP.out.2.add HP.out.1 br cr⟩⟩
      · have hk0 : (k == 0) = false := beq_eq_false_iff_ne.2 hk
        by_cases hk1 : k = 1
        · subst hk1
          have gA := World.grownBy_alloc W (.cells #[.int .i64 1, .int .i64 ao, .int .i64 bo, .int .i64 co, .slice oa sl oc] 34) none
          have HX := hid_mk (show Blk (W.alloc (.cells #[.int .i64 1, .int .i64 ao, .int .i64 bo, .int .i64 co, .slice oa sl oc] 34)) W.heap.size #[.int .i64 1, .int .i64 ao, .int .i64 bo, .int .i64 co, .slice oa sl oc] 34 ∧ Mine w (W.alloc (.cells #[.int .i64 1, .int .i64 ao, .int .i64 bo, .int .i64 co, .slice oa sl oc] 34)) b v g ∧ Asc g.L i ∧ MapR (W.alloc (.cells #[.int .i64 1, .int .i64 ao, .int .i64 bo, .int .i64 co, .slice oa sl oc] 34)) mi ni (ixF g.L) g.L.length ∧ MapR (W.alloc (.cells #[.int .i64 1, .int .i64 ao, .int .i64 bo, .int .i64 co, .slice oa sl oc] 34)) (mi + 1) nr fr sr ∧ RdOf fr g.L i from ⟨heap_alloc_new _ _, HG.out.1.kept gA, HG.out.2.1, HG.out.2.2.1.kept gA (by simp), HG.out.2.2.2.1.kept gA (by simp), HG.out.2.2.2.2⟩)
          have HCL := hid_mk (fun (W1 : World) (h : Blk W1 W.heap.size #[.int .i64 1, .int .i64 ao, .int .i64 bo, .int .i64 co, .slice oa sl oc] 34) => show W1.cell? ⟨W.heap.size, 0, none⟩ = some (.int .i64 1) ∧ W1.cell? ⟨W.heap.size, 1, none⟩ = some (.int .i64 ao) ∧ W1.cell? ⟨W.heap.size, 2, none⟩ = some (.int .i64 bo) ∧ W1.cell? ⟨W.heap.size, 3, none⟩ = some (.int .i64 co) from ⟨by rw [h.cell]; rfl, by rw [h.cell]; rfl, by rw [h.cell]; rfl, by rw [h.cell]; rfl⟩)
          clear gA
          go_wp2_with fail
          simp only [HD.out.1, HD.out.2, HB2.out.1, HB2.out.2]
          generalize (W.alloc (.cells #[.int .i64 1, .int .i64 ao, .int .i64 bo, .int .i64 co, .slice oa sl oc] 34)) = w3 at *
          refine (heard_any HX.out.2.1.1 ar br2 (by have := HB2b.out; omega)).mono ?_
          rintro e w4 ⟨rfl, hb4⟩
          obtain ⟨v4, hk4⟩ := HX.out.2.1.bp hb4
          have hLL : (hearG g (ar : Int) (br2 : Int)).L = g.L := by unfold hearG; split <;> rfl
          have HT : Hid (OnceI w w4 b mi (mi + 1) (i + 1)) := hid_mk ⟨v4, _, ni, nr, fr, sr, hk4, by rw [hLL]; exact HX.out.2.2.1.more, by omega, by omega, by rw [hLL]; exact maps_bp HX.out.2.1.1 hb4 HX.out.2.2.2.1, maps_bp HX.out.2.1.1 hb4 HX.out.2.2.2.2.1, by rw [hLL]; exact HX.out.2.2.2.2.2.more⟩
          generalize hearE (ar : Int) (br2 : Int) = he at *
          clear hb4 hk4 HX hLL
          go_wp2_with fail
          go_roundg (90 - (i + 1))
          case measure => omega
          case rel => exact ⟨i + 1, by omega, by omega, rfl, by go_num, HT⟩
        · have hk10 : (k == 1) = false := beq_eq_false_iff_ne.2 hk1
          by_cases hk2 : k = 2
          · subst hk2
            have gA := World.grownBy_alloc W (.cells #[.int .i64 2, .int .i64 ao, .int .i64 bo, .int .i64 co, .slice oa sl oc] 34) none
            have HX := hid_mk (show Blk (W.alloc (.cells #[.int .i64 2, .int .i64 ao, .int .i64 bo, .int .i64 co, .slice oa sl oc] 34)) W.heap.size #[.int .i64 2, .int .i64 ao, .int .i64 bo, .int .i64 co, .slice oa sl oc] 34 ∧ Mine w (W.alloc (.cells #[.int .i64 2, .int .i64 ao, .int .i64 bo, .int .i64 co, .slice oa sl oc] 34)) b v g ∧ Asc g.L i ∧ MapR (W.alloc (.cells #[.int .i64 2, .int .i64 ao, .int .i64 bo, .int .i64 co, .slice oa sl oc] 34)) mi ni (ixF g.L) g.L.length ∧ MapR (W.alloc (.cells #[.int .i64 2, .int .i64 ao, .int .i64 bo, .int .i64 co, .slice oa sl oc] 34)) (mi + 1) nr fr sr ∧ RdOf fr g.L i from ⟨heap_alloc_new _ _, HG.out.1.kept gA, HG.out.2.1, HG.out.2.2.1.kept gA (by simp), HG.out.2.2.2.1.kept gA (by simp), HG.out.2.2.2.2⟩)
            have HCL := hid_mk (fun (W1 : World) (h : Blk W1 W.heap.size #[.int .i64 2, .int .i64 ao, .int .i64 bo, .int .i64 co, .slice oa sl oc] 34) => show W1.cell? ⟨W.heap.size, 0, none⟩ = some (.int .i64 2) ∧ W1.cell? ⟨W.heap.size, 1, none⟩ = some (.int .i64 ao) ∧ W1.cell? ⟨W.heap.size, 2, none⟩ = some (.int .i64 bo) ∧ W1.cell? ⟨W.heap.size, 3, none⟩ = some (.int .i64 co) from ⟨by rw [h.cell]; rfl, by rw [h.cell]; rfl, by rw [h.cell]; rfl, by rw [h.cell]; rfl⟩)
            clear gA
            go_wp2_with fail
            generalize (W.alloc (.cells #[.int .i64 2, .int .i64 ao, .int .i64 bo, .int .i64 co, .slice oa sl oc] 34)) = w3 at *
            refine (ready_any HX.out.2.1.1 S _ (HS.out.kept HX.out.2.1.2)).mono ?_
            rintro e w4 ⟨u4, rfl, hu4, hb4⟩
            obtain ⟨v4, hk4⟩ := HX.out.2.1.bp hb4
            obtain ⟨xa, xc, rfl⟩ := row_shape hu4
            have hM1 := maps_bp HX.out.2.1.1 hb4 HX.out.2.2.2.1
            have hM2 := maps_bp HX.out.2.1.1 hb4 HX.out.2.2.2.2.1
            have H4 := hid_mk (show Mine w w4 b v4 (leftB S g) ∧ MapR w4 mi ni (lessF (ixF g.L) ((doneB S g).take 0)) g.L.length ∧ MapR w4 (mi + 1) nr fr sr ∧ OwnY 50 w4 w3.heap.size (.slice xa (doneB S g).length xc) (doneB S g) from ⟨hk4, hM1.cast (by rw [List.take_zero, lessF_nil]) rfl, hM2, hu4⟩)
            have HP := hid_mk (And.intro HX.out.2.2.1 (And.intro HX.out.2.2.2.2.2 (show OkB g from HX.out.2.1.1.ok)))
            have HTA := hid_mk (show Asc (doneB S g) i from HX.out.2.2.1.filt _)
            have hdl : (doneB S g).length ≤ 90 := by have := HTA.out.few; omega
            have HDL := hid_mk (show (doneB S g).length ≤ g.L.length from List.length_filter_le _ _)
            have HDM := hid_mk (show ∀ r ∈ doneB S g, r ∈ g.L from fun r hr => (List.mem_filter.1 hr).1)
            clear hb4 hk4 HX hu4 hM1 hM2
            obtain ⟨D, hDe⟩ : ∃ D, D = doneB S g := ⟨_, rfl⟩
            rw [← hDe] at H4 HTA hdl HDL HDM ⊢
            have HDE := hid_mk hDe
            clear hDe
            go_wp2_with fail
            go_loopg [15, 16] D.length (fun gg mv jv W9 => ∃ (j : Nat) (M : Int), gg = D.length - j ∧ j ≤ D.length ∧ jv = .int .i64 j ∧ mv = .int .i64 M ∧ Hid (M = mostL (D.take j) ∧ Mine w W9 b v4 (leftB S g) ∧ MapR W9 mi ni (lessF (ixF g.L) (D.take j)) (g.L.length - j) ∧ MapR W9 (mi + 1) nr fr sr ∧ OwnY 50 W9 w3.heap.size (.slice xa D.length xc) D))
            case atStart => exact ⟨0, -1, rfl, Nat.zero_le _, rfl, rfl, hid_mk ⟨rfl, H4.out⟩⟩
            case round =>
              obtain ⟨j, M, hgj, hjD, rfl, rfl, H9⟩ := hrel
              rename World => W9
              by_cases hjl : j < D.length
              · have hjl1 : (j : Int) < D.length := by omega
                obtain ⟨bb, cap2, e, hc1, hc2⟩ := H9.out.2.2.2.2.get j hjl
                injection e with e1 e2 e3
                subst e1
                clear e2 e3
                have HI := hid_mk (show D[j] ∈ g.L ∧ lessF (ixF g.L) (D.take j) D[j].id = some D[j].ix ∧ fr D[j].id = some D[j].rd ∧ 0 ≤ D[j].id ∧ D[j].id < i from by
                  have hm := HDM.out _ (List.getElem_mem hjl)
                  refine ⟨hm, ?_, HP.out.2.1.1 _ hm, HP.out.1.below _ hm⟩
                  unfold lessF
                  rw [if_neg (asc_not_taken HTA.out hjl)]
                  exact ixF_mem HP.out.1 hm)
                have HT := hid_mk (show mostL (D.take (j + 1)) = max (mostL (D.take j)) D[j].rd ∧ lessF (ixF g.L) (D.take (j + 1)) = delF (lessF (ixF g.L) (D.take j)) D[j].id from by rw [take_one D j hjl, mostL_snoc, lessF_add]; exact ⟨rfl, rfl⟩)
                generalize D[j].id = x at *
                generalize D[j].ix = y at *
                generalize D[j].rd = z at *
                have hlk1 := (H9.out.2.2.1.look HI.out.2.2.2.1 (by have := HI.out.2.2.2.2; omega) HI.out.2.1).2
                have hlk2 := (H9.out.2.2.2.1.look HI.out.2.2.2.1 (by have := HI.out.2.2.2.2; omega) HI.out.2.2.1).1
                have hk3 := keyOf_int_mk Try.underlying3 (lit_wf HI.out.2.2.2.1 (by have := HI.out.2.2.2.2; omega))
                obtain ⟨M2, hM2⟩ : ∃ M2, M2 = max M z := ⟨_, rfl⟩
                have hif : (if M < z then z else M) = M2 := by rw [hM2]; split <;> omega
                have hif2 : max M z = M2 := hM2.symm
                have HM2 := hid_mk hM2
                clear hM2
                obtain ⟨Dm, hD⟩ := H9.out.2.2.1
                have HDD := hid_mk hD
                have hD1 := hD.own
                clear hD
                go_wp2_with (at_delete; refine wpList_delete_own _ rfl _ _ 47 3 rfl 3 key3 Try.underlying47 _ mi ni Dm rfl hD1 _ _ rfl hk3 ?_; intro w5 hown5 hturn5)
                go_roundg (D.length - (j + 1))
                case measure => omega
                case rel =>
                  have hg5 := hturn5.grown
                  have hsz : g.L.length - j = (g.L.length - (j + 1)) + 1 := by have := HDL.out; omega
                  refine ⟨j + 1, M2, rfl, by omega, by go_num, rfl, hid_mk ⟨by rw [HT.out.1, HM2.out, H9.out.1], H9.out.2.1.turn H9.out.2.2.1 HMI.out hg5, ?_, H9.out.2.2.2.1.kept hg5 (by simp), owns_kept2 H9.out.2.2.2.2 hg5 (map_own H9.out.2.2.1 H9.out.2.2.2.2)⟩⟩
                  rw [HT.out.2]
                  have hd := HDD.out
                  rw [hsz] at hd
                  exact hd.del HI.out.2.1 hown5
              · have hjl1 : ¬ (j : Int) < D.length := by omega
                have H8 := hid_mk (show M = mostL D ∧ Mine w W9 b v4 (leftB S g) ∧ MapR W9 mi ni (ixF (leftB S g).L) (leftB S g).L.length ∧ MapR W9 (mi + 1) nr fr sr from by
                  obtain ⟨q1, q2, q3, q4, q5⟩ := H9.out
                  have ej : j = D.length := by omega
                  rw [List.take_of_length_le (by omega)] at q1 q3
                  refine ⟨q1, q2, q3.cast ?_ ?_, q4⟩
                  · rw [HDE.out]; exact lessF_all HP.out.1 _
                  · have := filt_len g.L (rdyB S g.H)
                    have e2 : D.length = (g.L.filter (rdyB S g.H)).length := by rw [HDE.out]; rfl
                    show _ = (g.L.filter (fun r => !rdyB S g.H r)).length
                    omega)
                clear H9
                go_wp2_with fail
                refine (waiting_any H8.out.2.1.1).mono ?_
                rintro e w8 ⟨u8, rfl, hu8, hg8⟩
                obtain ⟨ua, uc, rfl⟩ := hu8.len
                have H7 := hid_mk (show IntsR w8 (.slice ua (ids (leftB S g).L).length uc) (ids (leftB S g).L) ∧ Mine w w8 b v4 (leftB S g) ∧ MapR w8 mi ni (ixF (leftB S g).L) (leftB S g).L.length ∧ MapR w8 (mi + 1) nr fr sr from ⟨hu8.ints, H8.out.2.1.kept hg8, H8.out.2.2.1.kept hg8 (by simp), H8.out.2.2.2.kept hg8 (by simp)⟩)
                have HLF := hid_mk (show ∀ x ∈ ids (leftB S g).L, ∃ z, fr x = some z ∧ ¬ z ≤ M ∧ 0 ≤ x ∧ x < i from fun x hx => by
                  obtain ⟨r, hr, rfl⟩ := List.mem_map.1 hx
                  have hm := (List.mem_filter.1 hr).1
                  refine ⟨r.rd, HP.out.2.1.1 _ hm, ?_, HP.out.1.below _ hm⟩
                  rw [H8.out.1, HDE.out]
                  exact most_left HP.out.2.2 hr)
                have hll : (ids (leftB S g).L).length ≤ 90 := by
                  have h1 := HP.out.1.few
                  have h2 : (leftB S g).L.length ≤ g.L.length := List.length_filter_le _ _
                  simp [ids]; omega
                have HT : Hid (OnceI w w8 b mi (mi + 1) (i + 1)) := hid_mk ⟨v4, leftB S g, ni, nr, fr, sr, H7.out.2.1, (HP.out.1.filt _).more, by omega, by omega, H7.out.2.2.1, H7.out.2.2.2, (HP.out.2.1.less (fun r hr => (List.mem_filter.1 hr).1)).more⟩
                clear hu8 hg8 H8
                have HW := hid_mk (And.intro H7.out.1 H7.out.2.2.2)
                clear H7
                generalize ids (leftB S g).L = l9 at *
                go_wp2_with fail
                go_loopg [20] l9.length (fun gg jv W7 => ∃ q : Nat, gg = l9.length - q ∧ q ≤ l9.length ∧ jv = .int .i64 q ∧ W7 = w8)
                case atStart => exact ⟨0, rfl, Nat.zero_le _, rfl, rfl⟩
                case round =>
                  obtain ⟨q, hgq, hq0, rfl, rfl⟩ := hrel
                  by_cases hql : q < l9.length
                  · have hql1 : (q : Int) < l9.length := by omega
                    obtain ⟨bb, off2, cap2, e, hcc⟩ := HW.out.1.get q hql
                    injection e with e1 e2 e3
                    subst e1
                    clear e2 e3
                    obtain ⟨z, hz1, hz2, hz3, hz4⟩ := HLF.out _ (List.getElem_mem hql)
                    have hlk := (HW.out.2.look hz3 (by omega) hz1).1
                    have HZ := hid_mk hz1
                    clear hz1 hz3 hz4
                    generalize l9[q] = x at *
                    go_wp2_with fail
                    go_roundg (l9.length - (q + 1))
                    case measure => omega
                    case rel => exact ⟨q + 1, rfl, by omega, by go_num, rfl⟩
                  · have hql1 : ¬ (q : Int) < l9.length := by omega
                    go_wp2_with fail
                    go_roundg (90 - (i + 1))
                    case measure => omega
                    case rel => exact ⟨i + 1, by omega, by omega, rfl, by go_num, HT⟩
          · have hk20 : (k == 2) = false := beq_eq_false_iff_ne.2 hk2
            have gA := World.grownBy_alloc W (.cells #[.int .i64 k, .int .i64 ao, .int .i64 bo, .int .i64 co, .slice oa sl oc] 34) none
            have HX := hid_mk (show Blk (W.alloc (.cells #[.int .i64 k, .int .i64 ao, .int .i64 bo, .int .i64 co, .slice oa sl oc] 34)) W.heap.size #[.int .i64 k, .int .i64 ao, .int .i64 bo, .int .i64 co, .slice oa sl oc] 34 ∧ Mine w (W.alloc (.cells #[.int .i64 k, .int .i64 ao, .int .i64 bo, .int .i64 co, .slice oa sl oc] 34)) b v g ∧ Asc g.L i ∧ MapR (W.alloc (.cells #[.int .i64 k, .int .i64 ao, .int .i64 bo, .int .i64 co, .slice oa sl oc] 34)) mi ni (ixF g.L) g.L.length ∧ MapR (W.alloc (.cells #[.int .i64 k, .int .i64 ao, .int .i64 bo, .int .i64 co, .slice oa sl oc] 34)) (mi + 1) nr fr sr ∧ RdOf fr g.L i from ⟨heap_alloc_new _ _, HG.out.1.kept gA, HG.out.2.1, HG.out.2.2.1.kept gA (by simp), HG.out.2.2.2.1.kept gA (by simp), HG.out.2.2.2.2⟩)
            have HCL := hid_mk (fun (W1 : World) (h : Blk W1 W.heap.size #[.int .i64 k, .int .i64 ao, .int .i64 bo, .int .i64 co, .slice oa sl oc] 34) => show W1.cell? ⟨W.heap.size, 0, none⟩ = some (.int .i64 k) ∧ W1.cell? ⟨W.heap.size, 1, none⟩ = some (.int .i64 ao) ∧ W1.cell? ⟨W.heap.size, 2, none⟩ = some (.int .i64 bo) ∧ W1.cell? ⟨W.heap.size, 3, none⟩ = some (.int .i64 co) from ⟨by rw [h.cell]; rfl, by rw [h.cell]; rfl, by rw [h.cell]; rfl, by rw [h.cell]; rfl⟩)
            clear gA
            clear hk hk1 hk2
            have HT : Hid (OnceI w (W.alloc (.cells #[.int .i64 k, .int .i64 ao, .int .i64 bo, .int .i64 co, .slice oa sl oc] 34)) b mi (mi + 1) (i + 1)) := hid_mk ⟨v, g, ni, nr, fr, sr, HX.out.2.1, HX.out.2.2.1.more, by omega, by omega, HX.out.2.2.2.1, HX.out.2.2.2.2.1, HX.out.2.2.2.2.2.more⟩
            go_wp2_with fail
            go_roundg (90 - (i + 1))
            case measure => omega
            case rel => exact ⟨i + 1, by omega, by omega, rfl, by go_num, HT⟩
    · obtain ⟨v, g, ni, nr, fr, sr, hmine, hasc, hni, hnr, hmi, hmr, hrd⟩ := H.out.ex
      have HG := hid_mk (And.intro hmine hmi)
      have hgl := hasc.few
      have HT : Hid (¬ (i < L ∧ i < 90)) := hid_mk hlt
      clear H hmine hasc hlt hmi hmr hrd
      have hcase : ((i : Int) < L ∧ ¬ (i : Int) < 90) ∨ ¬ (i : Int) < L := by have := HT.out; omega
      clear HT
      rcases hcase with ⟨hq1, hq2⟩ | hq1
      all_goals
        go_wp2_with fail
        refine (waiting_any HG.out.1.1).mono ?_
        rintro e w5 ⟨u5, rfl, hu5, hg5⟩
        obtain ⟨ua, uc, rfl⟩ := hu5.len
        have H5 := hid_mk (HG.out.1.kept hg5)
        have hln := map_len (HG.out.2.kept hg5 (by simp))
        have hle : (ids g.L).length = g.L.length := by simp [ids]
        rw [hle]
        clear hu5 hg5 hle
        generalize g.L.length = gn at *
        go_wp2_with fail
        go_ret
        exact ⟨rfl, H5.out.2⟩
end Go.Proofs.Ythfdoliojbhcjaa
