/- history: HistoryMade. -/
import Derived.Test.YthbfjpaimnhpgaaHWdb
namespace Go.Proofs.Ythbfjpaimnhpgaa
open Go.RowKit Go.Maps
set_option linter.unusedVariables false
set_option linter.unusedSimpArgs false
set_option maxRecDepth 100000

set_option maxHeartbeats 16000000 in
theorem historyMade_walk (v u : Value) (z : Int) (L : List OpG) (o : List Int) (w : World) (hL : OpsR w v L) (hl : L.length ≤ 2932031007403) (ho : IntsR w u o) (hol : o.length ≤ 17592186044416) (hz : -9223372036854775808 ≤ z ∧ z ≤ 9223372036854775807) :
    Calls Try.prog 7 #[v, u, .int .i64 z] w fun e w' => e = .returned (.bool true) ∧ w.grownBy w' none := by
  obtain ⟨va, vc, hv⟩ := hL.1
  obtain ⟨ua, uc, hu⟩ := ho.len
  have HL := hid_mk hL
  have HV := hid_mk hv
  have HO := hid_mk ho
  have HU := hid_mk hu
  have HZ := hid_mk hz
  rw [hv, hu]
  clear hL hv ho hu hz
  go_enter Try.func7, Try.ntmps7
  go_wp2_with fail
  have H0 := hid_mk (show MaI w (w.alloc (.cells #[.int .i64 0, .slice none 0 0] 28)) w.heap.size (.slice none 0 0) [] 0 (.slice none 0 0) [] (.slice none 0 0) (idsG 0) from ⟨dnew_any w, OwnD.nil _ _, OwnI.nil _ _, fun x hx => (by cases hx), World.grownBy_alloc _ _ none, Nat.le_refl _, fun x hx => (by cases hx)⟩)
  generalize w.alloc (.cells #[.int .i64 0, .slice none 0 0] 28) = w1 at *
  obtain ⟨bd, hbd⟩ : ∃ b, b = w.heap.size := ⟨_, rfl⟩
  have HB0 := hid_mk (show MaI w w1 bd (.slice none 0 0) [] 0 (.slice none 0 0) [] (.slice none 0 0) (idsG 0) from by rw [hbd]; exact H0.out)
  rw [← hbd]
  clear H0 hbd
  go_loopg [8, 9, 10] L.length (fun gg lv ov iv W => ∃ (i : Nat) (la : Option Addr) (lc : Nat) (oa : Option Addr) (oc : Nat) (vl : Value) (Rd : List RV) (s : Nat) (Lk : List CE), i ≤ L.length ∧ i ≤ 60 ∧ gg = L.length - i ∧ lv = .slice la i lc ∧ ov = .slice oa i oc ∧ iv = .int .i64 i ∧ Hid (MaI w W bd vl Rd s (.slice la i lc) Lk (.slice oa i oc) (idsG i) ∧ PI Lk Rd s ∧ Lk.length = i))
  case atStart => exact ⟨0, none, 0, none, 0, _, [], 0, [], Nat.zero_le _, by omega, rfl, rfl, rfl, rfl, hid_mk ⟨HB0.out, PI.nil, rfl⟩⟩
  case round =>
    clear HB0
    obtain ⟨i, la, lc, oa, oc, vl, Rd, s, Lk, hi, hi60, hgi, rfl, rfl, rfl, H⟩ := hrel
    rename World => W
    by_cases hlt : i < L.length
    · have hlt' : (i : Int) < L.length := by omega
      by_cases h60 : i < 60
      · have h60' : (i : Int) < 60 := by omega
        obtain ⟨lb, off, cap, he, hc⟩ := HL.out.2.2 i hlt
        rw [HV.out] at he
        injection he with e1 e2 e3
        clear e2 e3
        subst e1
        have HX := hid_mk (HL.out.2.1 _ (List.getElem_mem hlt))
        have d0 := H.out.1.gr.cell (hc 0 _ rfl) (by simp)
        have d1 := H.out.1.gr.cell (hc 1 _ rfl) (by simp)
        have d2 := H.out.1.gr.cell (hc 2 _ rfl) (by simp)
        have d3 := H.out.1.gr.cell (hc 3 _ rfl) (by simp)
        rw [Nat.add_zero] at d0
        obtain ⟨xa, xc, hxv⟩ := HX.out.1.len
        rw [hxv] at d3
        have HBY := hid_mk (show Byt w (.slice xa L[i].b.length xc) L[i].b from by rw [← hxv]; exact HX.out.1)
        clear hc hxv
        generalize L[i] = x at *
        go_upto_region 8 with fail
        clear d0 d1 d2 d3
        have HB := hid_mk (show MaI w (W.alloc (.cells #[.int .i64 x.k, .int .i64 x.fr, .int .i64 x.mo, .slice xa x.b.length xc] 32)) bd vl Rd s (.slice la i lc) Lk (.slice oa i oc) (idsG i) ∧ Blk (W.alloc (.cells #[.int .i64 x.k, .int .i64 x.fr, .int .i64 x.mo, .slice xa x.b.length xc] 32)) W.heap.size #[.int .i64 x.k, .int .i64 x.fr, .int .i64 x.mo, .slice xa x.b.length xc] 32 ∧ PI Lk Rd s ∧ Lk.length = i from ⟨H.out.1.grown (World.grownBy_alloc _ _ none), blk_alloc W _ 32, H.out.2⟩)
        generalize (W.alloc (.cells #[.int .i64 x.k, .int .i64 x.fr, .int .i64 x.mo, .slice xa x.b.length xc] 32)) = W1 at *
        generalize W.heap.size = q0 at *
        clear H
        obtain ⟨p0, p1, p2, p3, pf⟩ := blk4 HB.out.2.1
        by_cases hw : i < o.length
        · have hw' : (i : Int) < o.length := by omega
          obtain ⟨ub, uo, ucc, hue, huc⟩ := HO.out.get i hw
          rw [HU.out] at hue
          injection hue with e1 e2 e3
          clear e2 e3
          subst e1
          have u0 := HB.out.1.gr.cell huc (by simp)
          clear huc
          generalize o[i] = y at *
          go_upto_region 11 with fail
          have hq9 := mod_in y 9 (by omega) (by omega)
          rw [hq9.1]
          have hv9 := hq9.2
          clear u0 hq9
          generalize (y.tmod 9 + 9).tmod 9 = wv at *
          obtain ⟨hv0, hv8⟩ := hv9

          go_upto_region 12 with fail
          obtain ⟨bb, hbb⟩ : ∃ bb, bb = max 0 (10 * (i : Int) - wv * 7) := ⟨_, rfl⟩
          obtain ⟨ee, hee⟩ : ∃ ee, ee = 10 * (i : Int) + 1 + wv * 7 := ⟨_, rfl⟩
          rw [← hbb, ← hee]
          have HBE := hid_mk (show 0 ≤ bb ∧ bb ≤ 10 * (i : Int) ∧ 10 * (i : Int) < ee ∧ ee ≤ 10 * i + 57 from by rw [hbb, hee]; omega)
          clear hbb hee
          have HC := hid_mk (CI.start HB.out.1 HB.out.2.1 #[.int .i64 i, .int .i64 bb, .int .i64 ee, .int .i64 1, .int .i64 0, .bool true, .int .i64 0, .int .i64 0, .int .i64 0, .int .i64 0, .slice xa x.b.length xc, .slice none 0 0])
          have HK := hid_mk HB.out.2.2
          have HK := hid_mk (And.intro HB.out.2.2.1 (And.intro HB.out.2.2.2 trivial))
          generalize (W1.alloc (.cells #[.int .i64 i, .int .i64 bb, .int .i64 ee, .int .i64 1, .int .i64 0, .bool true, .int .i64 0, .int .i64 0, .int .i64 0, .int .i64 0, .slice xa x.b.length xc, .slice none 0 0] 55)) = W2 at *
          generalize W1.heap.size = q1 at *
          clear p0 p1 p2 p3 pf HB
          obtain ⟨p0, p1, p2, p3, pf⟩ := blk4 HC.out.x
          obtain ⟨c0, c1, c2, c3, c4, c5, c6, c7, c8, c9, c10, c11, cf⟩ := blk12 HC.out.c

          by_cases hk0 : x.k = 0
          ·
            rw [hk0] at p0
            go_wp2_with fail
            have hfit : s + Rd.length + 1 ≤ 5864062014805 := by have := HK.out.1.le; have := HK.out.2.1; omega
            refine (dput_any HC.out.m.d HC.out.m.gr.size x.b _ (HBY.out.kept HC.out.m.gr) HX.out.2.1 hfit).mono ?_
            rintro e W3 ⟨rfl, vl', x1, h2, h3, h4⟩
            have H3 := hid_mk (show CI w W3 bd vl' (Rd ++ [(x.b, x1)]) (s) (.slice la i lc) Lk (.slice oa i oc) (idsG i) q0 #[.int .i64 x.k, .int .i64 x.fr, .int .i64 x.mo, .slice xa x.b.length xc] q1 #[.int .i64 i, .int .i64 bb, .int .i64 ee, .int .i64 1, .int .i64 0, .bool true, .int .i64 0, .int .i64 0, .int .i64 0, .int .i64 0, .slice xa x.b.length xc, .slice none 0 0] from HC.out.dcall h2 h3)
            have HPI := hid_mk (HK.out.1.put HK.out.2.1 h60 HBE.out x.b HX.out.2.1 (.slice xa x.b.length xc) (.slice none 0 0) x1)
            clear h2 h3 h4 hfit HC
            clear p0 p1 p2 p3 pf c0 c1 c2 c3 c4 c5 c6 c7 c8 c9 c10 c11 cf
            obtain ⟨p0, p1, p2, p3, pf⟩ := blk4 H3.out.x
            obtain ⟨c0, c1, c2, c3, c4, c5, c6, c7, c8, c9, c10, c11, cf⟩ := blk12 H3.out.c

            go_upto_region 25 with fail
            clear p0 p1 p2 p3 pf c0 c1 c2 c3 c4 c5 c6 c7 c8 c9 c10 c11 cf

            have H4 := hid_mk (show CI w (W3.setCell ⟨q1, 8, none⟩ (.int .i64 ((s : Int) + (Rd.length : Int)))) bd vl' (Rd ++ [(x.b, x1)]) (s) (.slice la i lc) Lk (.slice oa i oc) (idsG i) q0 #[.int .i64 x.k, .int .i64 x.fr, .int .i64 x.mo, .slice xa x.b.length xc] q1 #[.int .i64 i, .int .i64 bb, .int .i64 ee, .int .i64 1, .int .i64 0, .bool true, .int .i64 0, .int .i64 0, .int .i64 ((s : Int) + (Rd.length : Int)), .int .i64 0, .slice xa x.b.length xc, .slice none 0 0] from H3.out.set 8 (.int .i64 ((s : Int) + (Rd.length : Int))) rfl)
            generalize (W3.setCell ⟨q1, 8, none⟩ (.int .i64 ((s : Int) + (Rd.length : Int)))) = W4 at *
            clear H3
            obtain ⟨p0, p1, p2, p3, pf⟩ := blk4 H4.out.x
            obtain ⟨c0, c1, c2, c3, c4, c5, c6, c7, c8, c9, c10, c11, cf⟩ := blk12 H4.out.c

            have HDE := hid_mk (show DE w W4 ⟨⟨i, bb, ee, 1, 0, true, 0, 0, ((s : Int) + (Rd.length : Int)), 0, x.b, []⟩, .slice xa x.b.length xc, .slice none 0 0, []⟩ from ⟨HBY.out, OwnRec.nil _ _, rfl, ⟨HX.out.2.1, by simp, fun p hp => (by cases hp)⟩⟩)
            obtain ⟨a', c', W8, hr, hm⟩ := H4.out.addl HK.out.2.1 h60 HDE.out (fun k e => by cases e) 40
            have HR := hid_mk (show (Builtin.append_ #[40, 40] 40 #[.slice la i lc, .slice (some ⟨W4.heap.size, 0, none⟩) 1 1]).run Try.prog (W4.alloc (.cells #[.int .i64 i, .int .i64 bb, .int .i64 ee, .int .i64 1, .int .i64 0, .bool true, .int .i64 0, .int .i64 0, .int .i64 ((s : Int) + (Rd.length : Int)), .int .i64 0, .slice xa x.b.length xc, .slice none 0 0] 55)) = .ok (.slice a' (i + 1) c') W8 ∧ MaI w W8 bd (vl') (Rd ++ [(x.b, x1)]) (s) (.slice a' (i + 1) c') (Lk ++ [⟨⟨i, bb, ee, 1, 0, true, 0, 0, ((s : Int) + (Rd.length : Int)), 0, x.b, []⟩, .slice xa x.b.length xc, .slice none 0 0, []⟩]) (.slice oa i oc) (idsG i) from ⟨hr, hm⟩)
            clear hr hm HDE
            go_upto_region 26 with (at_builtin; refine wp_run_app rfl (.tmp 111) (.tmp 113) rfl rfl rfl HR.out.1 ?_)
            clear p0 p1 p2 p3 pf c0 c1 c2 c3 c4 c5 c6 c7 c8 c9 c10 c11 cf

            obtain ⟨a2, c2', W9, hr2, hm2⟩ := HR.out.2.addi h60 41
            have HR2 := hid_mk (And.intro hr2 hm2)
            have HKL := hid_mk (show (Lk ++ [(⟨⟨i, bb, ee, 1, 0, true, 0, 0, ((s : Int) + (Rd.length : Int)), 0, x.b, []⟩, .slice xa x.b.length xc, .slice none 0 0, []⟩ : CE)]).length = i + 1 from by rw [List.length_append, HK.out.2.1]; rfl)
            clear hr2 hm2 HR
            go_wp2_with (at_builtin; refine wp_run_app rfl (.tmp 115) (.tmp 117) rfl rfl rfl HR2.out.1 ?_)
            go_roundg (L.length - (i + 1))
            case measure => omega
            case rel => exact ⟨i + 1, a', c', a2, c2', _, _, _, _, by omega, by omega, rfl, rfl, rfl, by go_num, hid_mk ⟨HR2.out.2, HPI.out, HKL.out⟩⟩

          · by_cases hk1 : x.k = 1
            ·
              rw [hk1] at p0

              go_upto_region 23 with fail
              clear p0 p1 p2 p3 pf c0 c1 c2 c3 c4 c5 c6 c7 c8 c9 c10 c11 cf

              have H3 := hid_mk (show CI w (W2.setCell ⟨q1, 3, none⟩ (.int .i64 3)) bd vl (Rd) (s) (.slice la i lc) Lk (.slice oa i oc) (idsG i) q0 #[.int .i64 x.k, .int .i64 x.fr, .int .i64 x.mo, .slice xa x.b.length xc] q1 #[.int .i64 i, .int .i64 bb, .int .i64 ee, .int .i64 3, .int .i64 0, .bool true, .int .i64 0, .int .i64 0, .int .i64 0, .int .i64 0, .slice xa x.b.length xc, .slice none 0 0] from HC.out.set 3 (.int .i64 3) rfl)
              generalize (W2.setCell ⟨q1, 3, none⟩ (.int .i64 3)) = W3 at *
              clear HC
              obtain ⟨p0, p1, p2, p3, pf⟩ := blk4 H3.out.x
              obtain ⟨c0, c1, c2, c3, c4, c5, c6, c7, c8, c9, c10, c11, cf⟩ := blk12 H3.out.c
              clear p0

              go_upto_region 24 with fail
              clear p1 p2 p3 pf c0 c1 c2 c3 c4 c5 c6 c7 c8 c9 c10 c11 cf

              have H4 := hid_mk (show CI w (W3.setCell ⟨q1, 6, none⟩ (.int .i64 x.fr)) bd vl (Rd) (s) (.slice la i lc) Lk (.slice oa i oc) (idsG i) q0 #[.int .i64 x.k, .int .i64 x.fr, .int .i64 x.mo, .slice xa x.b.length xc] q1 #[.int .i64 i, .int .i64 bb, .int .i64 ee, .int .i64 3, .int .i64 0, .bool true, .int .i64 x.fr, .int .i64 0, .int .i64 0, .int .i64 0, .slice xa x.b.length xc, .slice none 0 0] from H3.out.set 6 (.int .i64 x.fr) rfl)
              generalize (W3.setCell ⟨q1, 6, none⟩ (.int .i64 x.fr)) = W4 at *
              clear H3
              obtain ⟨p0, p1, p2, p3, pf⟩ := blk4 H4.out.x
              obtain ⟨c0, c1, c2, c3, c4, c5, c6, c7, c8, c9, c10, c11, cf⟩ := blk12 H4.out.c

              go_wp2_with fail
              refine (dtrim_any H4.out.m.d H4.out.m.gr.size x.fr).mono ?_
              rintro e W5 ⟨rfl, vl', h2, h3⟩
              have HPI := hid_mk (HK.out.1.trim HK.out.2.1 h60 HBE.out x.b x.fr (.slice xa x.b.length xc) (.slice none 0 0))
              have H5 := hid_mk (H4.out.dcall h2 h3)
              clear h2 h3 H4
              generalize goneM ⟨s, Rd.map (·.1)⟩ x.fr = gn at *
              clear p0 p1 p2 p3 pf c0 c1 c2 c3 c4 c5 c6 c7 c8 c9 c10 c11 cf
              obtain ⟨p0, p1, p2, p3, pf⟩ := blk4 H5.out.x
              obtain ⟨c0, c1, c2, c3, c4, c5, c6, c7, c8, c9, c10, c11, cf⟩ := blk12 H5.out.c

              go_upto_region 25 with fail
              clear p0 p1 p2 p3 pf c0 c1 c2 c3 c4 c5 c6 c7 c8 c9 c10 c11 cf

              have H6 := hid_mk (show CI w (W5.setCell ⟨q1, 9, none⟩ (.int .i64 ((s : Int) + (gn : Int)))) bd vl' (Rd.drop gn) (s + gn) (.slice la i lc) Lk (.slice oa i oc) (idsG i) q0 #[.int .i64 x.k, .int .i64 x.fr, .int .i64 x.mo, .slice xa x.b.length xc] q1 #[.int .i64 i, .int .i64 bb, .int .i64 ee, .int .i64 3, .int .i64 0, .bool true, .int .i64 x.fr, .int .i64 0, .int .i64 0, .int .i64 ((s : Int) + (gn : Int)), .slice xa x.b.length xc, .slice none 0 0] from H5.out.set 9 (.int .i64 ((s : Int) + (gn : Int))) rfl)
              generalize (W5.setCell ⟨q1, 9, none⟩ (.int .i64 ((s : Int) + (gn : Int)))) = W6 at *
              clear H5
              obtain ⟨p0, p1, p2, p3, pf⟩ := blk4 H6.out.x
              obtain ⟨c0, c1, c2, c3, c4, c5, c6, c7, c8, c9, c10, c11, cf⟩ := blk12 H6.out.c

              have HDE := hid_mk (show DE w W6 ⟨⟨i, bb, ee, 3, 0, true, x.fr, 0, 0, ((s : Int) + (gn : Int)), x.b, []⟩, .slice xa x.b.length xc, .slice none 0 0, []⟩ from ⟨HBY.out, OwnRec.nil _ _, rfl, ⟨HX.out.2.1, by simp, fun p hp => (by cases hp)⟩⟩)
              obtain ⟨a', c', W8, hr, hm⟩ := H6.out.addl HK.out.2.1 h60 HDE.out (fun k e => by cases e) 40
              have HR := hid_mk (show (Builtin.append_ #[40, 40] 40 #[.slice la i lc, .slice (some ⟨W6.heap.size, 0, none⟩) 1 1]).run Try.prog (W6.alloc (.cells #[.int .i64 i, .int .i64 bb, .int .i64 ee, .int .i64 3, .int .i64 0, .bool true, .int .i64 x.fr, .int .i64 0, .int .i64 0, .int .i64 ((s : Int) + (gn : Int)), .slice xa x.b.length xc, .slice none 0 0] 55)) = .ok (.slice a' (i + 1) c') W8 ∧ MaI w W8 bd (vl') (Rd.drop gn) (s + gn) (.slice a' (i + 1) c') (Lk ++ [⟨⟨i, bb, ee, 3, 0, true, x.fr, 0, 0, ((s : Int) + (gn : Int)), x.b, []⟩, .slice xa x.b.length xc, .slice none 0 0, []⟩]) (.slice oa i oc) (idsG i) from ⟨hr, hm⟩)
              clear hr hm HDE
              go_upto_region 26 with (at_builtin; refine wp_run_app rfl (.tmp 111) (.tmp 113) rfl rfl rfl HR.out.1 ?_)
              clear p0 p1 p2 p3 pf c0 c1 c2 c3 c4 c5 c6 c7 c8 c9 c10 c11 cf

              obtain ⟨a2, c2', W9, hr2, hm2⟩ := HR.out.2.addi h60 41
              have HR2 := hid_mk (And.intro hr2 hm2)
              have HKL := hid_mk (show (Lk ++ [(⟨⟨i, bb, ee, 3, 0, true, x.fr, 0, 0, ((s : Int) + (gn : Int)), x.b, []⟩, .slice xa x.b.length xc, .slice none 0 0, []⟩ : CE)]).length = i + 1 from by rw [List.length_append, HK.out.2.1]; rfl)
              clear hr2 hm2 HR
              go_wp2_with (at_builtin; refine wp_run_app rfl (.tmp 115) (.tmp 117) rfl rfl rfl HR2.out.1 ?_)
              go_roundg (L.length - (i + 1))
              case measure => omega
              case rel => exact ⟨i + 1, a', c', a2, c2', _, _, _, _, by omega, by omega, rfl, rfl, rfl, by go_num, hid_mk ⟨HR2.out.2, HPI.out, HKL.out⟩⟩

            ·
              go_upto_region 14 with fail
              have HKK := hid_mk (And.intro hk0 hk1)
              clear hk0 hk1
              clear p0 p1 p2 p3 pf c0 c1 c2 c3 c4 c5 c6 c7 c8 c9 c10 c11 cf

              have H3 := hid_mk (show CI w (W2.setCell ⟨q1, 3, none⟩ (.int .i64 2)) bd vl (Rd) (s) (.slice la i lc) Lk (.slice oa i oc) (idsG i) q0 #[.int .i64 x.k, .int .i64 x.fr, .int .i64 x.mo, .slice xa x.b.length xc] q1 #[.int .i64 i, .int .i64 bb, .int .i64 ee, .int .i64 2, .int .i64 0, .bool true, .int .i64 0, .int .i64 0, .int .i64 0, .int .i64 0, .slice xa x.b.length xc, .slice none 0 0] from HC.out.set 3 (.int .i64 2) rfl)
              generalize (W2.setCell ⟨q1, 3, none⟩ (.int .i64 2)) = W3 at *
              clear HC
              obtain ⟨p0, p1, p2, p3, pf⟩ := blk4 H3.out.x
              obtain ⟨c0, c1, c2, c3, c4, c5, c6, c7, c8, c9, c10, c11, cf⟩ := blk12 H3.out.c
              obtain ⟨b0, b1, bf⟩ := H3.out.m.d.cells

              go_upto_region 15 with fail
              clear b0 b1 bf p0 p1 p2 p3 pf c0 c1 c2 c3 c4 c5 c6 c7 c8 c9 c10 c11 cf

              have H4 := hid_mk (show CI w (W3.setCell ⟨q1, 6, none⟩ (.int .i64 (s : Int))) bd vl (Rd) (s) (.slice la i lc) Lk (.slice oa i oc) (idsG i) q0 #[.int .i64 x.k, .int .i64 x.fr, .int .i64 x.mo, .slice xa x.b.length xc] q1 #[.int .i64 i, .int .i64 bb, .int .i64 ee, .int .i64 2, .int .i64 0, .bool true, .int .i64 (s : Int), .int .i64 0, .int .i64 0, .int .i64 0, .slice xa x.b.length xc, .slice none 0 0] from H3.out.set 6 (.int .i64 (s : Int)) rfl)
              generalize (W3.setCell ⟨q1, 6, none⟩ (.int .i64 (s : Int))) = W4 at *
              clear H3
              obtain ⟨p0, p1, p2, p3, pf⟩ := blk4 H4.out.x
              obtain ⟨c0, c1, c2, c3, c4, c5, c6, c7, c8, c9, c10, c11, cf⟩ := blk12 H4.out.c

              go_upto_region 16 with fail
              clear p0 p1 p2 p3 pf c0 c1 c2 c3 c4 c5 c6 c7 c8 c9 c10 c11 cf

              have H5 := hid_mk (show CI w (W4.setCell ⟨q1, 7, none⟩ (.int .i64 (max x.mo 0))) bd vl (Rd) (s) (.slice la i lc) Lk (.slice oa i oc) (idsG i) q0 #[.int .i64 x.k, .int .i64 x.fr, .int .i64 x.mo, .slice xa x.b.length xc] q1 #[.int .i64 i, .int .i64 bb, .int .i64 ee, .int .i64 2, .int .i64 0, .bool true, .int .i64 (s : Int), .int .i64 (max x.mo 0), .int .i64 0, .int .i64 0, .slice xa x.b.length xc, .slice none 0 0] from H4.out.set 7 (.int .i64 (max x.mo 0)) rfl)
              generalize (W4.setCell ⟨q1, 7, none⟩ (.int .i64 (max x.mo 0))) = W5 at *
              clear H4
              obtain ⟨p0, p1, p2, p3, pf⟩ := blk4 H5.out.x
              obtain ⟨c0, c1, c2, c3, c4, c5, c6, c7, c8, c9, c10, c11, cf⟩ := blk12 H5.out.c
              clear p0 p1 p2 p3 pf c0 c1 c2 c3 c4 c5 c6 c7 c8 c9 c10 c11 cf

              have HCL := hid_mk (fun (W : World) (hW : Blk W bd #[.int .i64 s, vl] 28 ∧ ∃ v, Blk W q1 #[.int .i64 i, .int .i64 bb, .int .i64 ee, .int .i64 2, .int .i64 0, .bool true, .int .i64 (s : Int), .int .i64 (max x.mo 0), .int .i64 0, .int .i64 0, .slice xa x.b.length xc, v] 55) => show W.cell? ⟨bd, 0, none⟩ = some (.int .i64 s) ∧ W.cell? ⟨bd, 1, none⟩ = some vl ∧ (∀ i, W.frozen? ⟨bd, i, none⟩ = false) ∧ W.cell? ⟨q1, 7, none⟩ = some (.int .i64 (max x.mo 0)) ∧ (∀ i, W.frozen? ⟨q1, i, none⟩ = false) from ⟨hW.1.cell 0, hW.1.cell 1, hW.1.frozen, by obtain ⟨_, v, hv⟩ := hW; exact hv.cell 7, by obtain ⟨_, v, hv⟩ := hW; exact hv.frozen⟩)
              refine wp_region_mix [(0, true), (1, true), (2, true), (3, true), (4, true), (5, true), (6, true), (7, false), (8, true), (9, true), (10, true), (11, true), (12, false)] (at0 W5 (fun W => Blk W bd #[.int .i64 s, vl] 28 ∧ ∃ v, Blk W q1 #[.int .i64 i, .int .i64 bb, .int .i64 ee, .int .i64 2, .int .i64 0, .bool true, .int .i64 (s : Int), .int .i64 (max x.mo 0), .int .i64 0, .int .i64 0, .slice xa x.b.length xc, v] 55)) (by kernel_rfl) (by kernel_rfl) rfl (by kernel_rfl) (shut_at0 (fun m => ⟨H5.out.m.d.blk.kept (grown_drewN _ m none) (by simp), _, H5.out.c.kept (grown_drewN _ m none) (by simp)⟩)) ⟨1, rfl⟩ ?_
              repeat (refine mix_rd1 rfl rfl (fun K hK => ?_); apply Exists.intro; refine ⟨fun W hW => ?_, ?_⟩; (obtain ⟨b0, b1, bf, c7, cf⟩ := HCL.out W hW; go_simp; rfl); (go_simp; refine hK _ _ ?_; clear hK K))
              refine mix_call rfl rfl 15 #[.pointer (some ⟨bd, 0, none⟩), .int .i64 s, .int .i64 (max x.mo 0)] (fun W0 => by go_simp) ?_
              rintro W0 ⟨m1, rfl⟩
              have hd1 := H5.out.grown (grown_drewN W5 m1 none)
              refine (dget_any hd1.m.d hd1.m.gr.size s (max x.mo 0) (by simp [hasM, Mo.next]; omega)).mono ?_
              rintro e W6 ⟨v', rfl, ho, hnew, hg⟩
              obtain ⟨a5, cg5, rfl⟩ := ho.len
              have HPI := hid_mk (HK.out.1.get HK.out.2.1 h60 HBE.out x.b (max x.mo 0) (.slice xa x.b.length xc) (.slice a5 (toldR Rd s s (max x.mo 0)).length cg5) (toldR Rd s s (max x.mo 0)))
              have HTR := hid_mk (show ∀ p ∈ toldR Rd s s (max x.mo 0), p ∈ Rd from fun p hp => List.mem_of_mem_drop (List.mem_of_mem_take hp))
              have HTL := hid_mk (show (toldR Rd s s (max x.mo 0)).length ≤ 5864062014805 from by
                have := HK.out.1.le
                have := HK.out.2.1
                unfold toldR
                rw [List.length_take, List.length_drop]
                omega)
              generalize toldR Rd s s (max x.mo 0) = RT at *
              have H6 := hid_mk (show CI w W6 bd vl (Rd) (s) (.slice la i lc) Lk (.slice oa i oc) (idsG i) q0 #[.int .i64 x.k, .int .i64 x.fr, .int .i64 x.mo, .slice xa x.b.length xc] q1 #[.int .i64 i, .int .i64 bb, .int .i64 ee, .int .i64 2, .int .i64 0, .bool true, .int .i64 (s : Int), .int .i64 (max x.mo 0), .int .i64 0, .int .i64 0, .slice xa x.b.length xc, .slice none 0 0] ∧ OwnRec W6 w.heap.size (.slice a5 RT.length cg5) RT ∧ ∀ k, (Value.slice a5 RT.length cg5).ownBlock = some k → vl.ownBlock ≠ some k from ⟨hd1.grown hg, ho, fun k e e' => by
                have h1 := hnew k e
                have h2 := (owns_lt hd1.m.d.row.1 e').2
                omega⟩)
              clear hd1 ho hnew hg H5
              refine ⟨_, rfl, at0 W6 (fun W => Blk W bd #[.int .i64 s, vl] 28 ∧ ∃ v, Blk W q1 #[.int .i64 i, .int .i64 bb, .int .i64 ee, .int .i64 2, .int .i64 0, .bool true, .int .i64 (s : Int), .int .i64 (max x.mo 0), .int .i64 0, .int .i64 0, .slice xa x.b.length xc, v] 55), ⟨0, rfl⟩, shut_at0 (fun m => ⟨H6.out.1.m.d.blk.kept (grown_drewN _ m none) (by simp), _, H6.out.1.c.kept (grown_drewN _ m none) (by simp)⟩), fun _ h => h, ?_⟩
              go_simp
              repeat (refine mix_rd1 rfl rfl (fun K hK => ?_); apply Exists.intro; refine ⟨fun W hW => ?_, ?_⟩; (obtain ⟨b0, b1, bf, c7, cf⟩ := HCL.out W hW; go_simp; rfl); (go_simp; refine hK _ _ ?_; clear hK K))
              refine mix_skip rfl rfl ?_
              rintro W0 ⟨m2, rfl⟩
              have H7 := hid_mk (show CI w (W6.drewN m2) bd vl (Rd) (s) (.slice la i lc) Lk (.slice oa i oc) (idsG i) q0 #[.int .i64 x.k, .int .i64 x.fr, .int .i64 x.mo, .slice xa x.b.length xc] q1 #[.int .i64 i, .int .i64 bb, .int .i64 ee, .int .i64 2, .int .i64 0, .bool true, .int .i64 (s : Int), .int .i64 (max x.mo 0), .int .i64 0, .int .i64 0, .slice xa x.b.length xc, .slice none 0 0] ∧ OwnRec (W6.drewN m2) w.heap.size (.slice a5 RT.length cg5) RT from ⟨H6.out.1.grown (grown_drewN _ m2 none), H6.out.2.1.kept (grown_drewN _ m2 none)⟩)
              obtain ⟨c0, c1, c2, c3, c4, c5, c6, c7, c8, c9, c10, c11, cf⟩ := blk12 H7.out.1.c
              refine ⟨(W6.drewN m2).setCell ⟨q1, 11, none⟩ (.slice a5 RT.length cg5), by go_simp, ?_⟩
              clear c0 c1 c2 c3 c4 c5 c6 c7 c8 c9 c10 c11 cf HCL
              have H8 := hid_mk (show CI w ((W6.drewN m2).setCell ⟨q1, 11, none⟩ (.slice a5 RT.length cg5)) bd vl (Rd) (s) (.slice la i lc) Lk (.slice oa i oc) (idsG i) q0 #[.int .i64 x.k, .int .i64 x.fr, .int .i64 x.mo, .slice xa x.b.length xc] q1 #[.int .i64 i, .int .i64 bb, .int .i64 ee, .int .i64 2, .int .i64 0, .bool true, .int .i64 (s : Int), .int .i64 (max x.mo 0), .int .i64 0, .int .i64 0, .slice xa x.b.length xc, .slice a5 RT.length cg5] ∧ OwnRec ((W6.drewN m2).setCell ⟨q1, 11, none⟩ (.slice a5 RT.length cg5)) w.heap.size (.slice a5 RT.length cg5) RT ∧ ∀ k, (Value.slice a5 RT.length cg5).ownBlock = some k → vl.ownBlock ≠ some k from ⟨H7.out.1.set 11 (.slice a5 RT.length cg5) rfl, H7.out.2.but (grown_setCell _ _ _ _) H7.out.1.c (by decide) (by decide), H6.out.2.2⟩)
              generalize ((W6.drewN m2).setCell ⟨q1, 11, none⟩ (.slice a5 RT.length cg5)) = W7 at *
              refine ⟨at0 W7 (fun W => Blk W bd #[.int .i64 s, vl] 28 ∧ ∃ v, Blk W q1 #[.int .i64 i, .int .i64 bb, .int .i64 ee, .int .i64 2, .int .i64 0, .bool true, .int .i64 (s : Int), .int .i64 (max x.mo 0), .int .i64 0, .int .i64 0, .slice xa x.b.length xc, v] 55), ⟨0, rfl⟩, shut_at0 (fun m => ⟨H8.out.1.m.d.blk.kept (grown_drewN _ m none) (by simp), _, H8.out.1.c.kept (grown_drewN _ m none) (by simp)⟩), fun _ h => h, ?_⟩
              go_simp
              refine mix_nil ?_
              rintro W0 ⟨m9, rfl⟩
              have H8' := hid_mk (show CI w (W7.drewN m9) bd vl (Rd) (s) (.slice la i lc) Lk (.slice oa i oc) (idsG i) q0 #[.int .i64 x.k, .int .i64 x.fr, .int .i64 x.mo, .slice xa x.b.length xc] q1 #[.int .i64 i, .int .i64 bb, .int .i64 ee, .int .i64 2, .int .i64 0, .bool true, .int .i64 (s : Int), .int .i64 (max x.mo 0), .int .i64 0, .int .i64 0, .slice xa x.b.length xc, .slice a5 RT.length cg5] ∧ OwnRec (W7.drewN m9) w.heap.size (.slice a5 RT.length cg5) RT ∧ ∀ k, (Value.slice a5 RT.length cg5).ownBlock = some k → vl.ownBlock ≠ some k from ⟨H8.out.1.grown (grown_drewN _ m9 none), H8.out.2.1.kept (grown_drewN _ m9 none), H8.out.2.2⟩)
              clear H6 H7 H8
              have H8 := H8'
              clear H8'
              generalize (W7.drewN m9) = W7 at *
              go_wp2_with fail
              refine (dnext_any H8.out.1.m.d).mono ?_
              rintro e W0 ⟨rfl, m3, rfl⟩
              have H9 := hid_mk (show CI w (W7.drewN m3) bd vl (Rd) (s) (.slice la i lc) Lk (.slice oa i oc) (idsG i) q0 #[.int .i64 x.k, .int .i64 x.fr, .int .i64 x.mo, .slice xa x.b.length xc] q1 #[.int .i64 i, .int .i64 bb, .int .i64 ee, .int .i64 2, .int .i64 0, .bool true, .int .i64 (s : Int), .int .i64 (max x.mo 0), .int .i64 0, .int .i64 0, .slice xa x.b.length xc, .slice a5 RT.length cg5] ∧ OwnRec (W7.drewN m3) w.heap.size (.slice a5 RT.length cg5) RT from ⟨H8.out.1.grown (grown_drewN _ m3 none), H8.out.2.1.kept (grown_drewN _ m3 none)⟩)
              generalize (W7.drewN m3) = W10 at *
              obtain ⟨p0, p1, p2, p3, pf⟩ := blk4 H9.out.1.x
              obtain ⟨c0, c1, c2, c3, c4, c5, c6, c7, c8, c9, c10, c11, cf⟩ := blk12 H9.out.1.c

              go_upto_region 18 with fail
              clear p0 p1 p2 p3 pf c0 c1 c2 c3 c4 c5 c6 c7 c8 c9 c10 c11 cf

              have H11 := hid_mk (show CI w (W10.setCell ⟨q1, 8, none⟩ (.int .i64 ((s : Int) + (Rd.length : Int)))) bd vl (Rd) (s) (.slice la i lc) Lk (.slice oa i oc) (idsG i) q0 #[.int .i64 x.k, .int .i64 x.fr, .int .i64 x.mo, .slice xa x.b.length xc] q1 #[.int .i64 i, .int .i64 bb, .int .i64 ee, .int .i64 2, .int .i64 0, .bool true, .int .i64 (s : Int), .int .i64 (max x.mo 0), .int .i64 ((s : Int) + (Rd.length : Int)), .int .i64 0, .slice xa x.b.length xc, .slice a5 RT.length cg5] ∧ OwnRec (W10.setCell ⟨q1, 8, none⟩ (.int .i64 ((s : Int) + (Rd.length : Int)))) w.heap.size (.slice a5 RT.length cg5) RT from ⟨H9.out.1.set 8 (.int .i64 ((s : Int) + (Rd.length : Int))) rfl, H9.out.2.but (grown_setCell _ _ _ _) H9.out.1.c (by decide) (by decide)⟩)
              generalize (W10.setCell ⟨q1, 8, none⟩ (.int .i64 ((s : Int) + (Rd.length : Int)))) = W11 at *
              clear H9
              obtain ⟨p0, p1, p2, p3, pf⟩ := blk4 H11.out.1.x
              obtain ⟨c0, c1, c2, c3, c4, c5, c6, c7, c8, c9, c10, c11, cf⟩ := blk12 H11.out.1.c
              obtain ⟨b0, b1, bf⟩ := H11.out.1.m.d.cells

              go_upto_region 25 with fail
              clear b0 b1 bf
              clear p0 p1 p2 p3 pf c0 c1 c2 c3 c4 c5 c6 c7 c8 c9 c10 c11 cf

              have H12 := hid_mk (show CI w (W11.setCell ⟨q1, 9, none⟩ (.int .i64 (s : Int))) bd vl (Rd) (s) (.slice la i lc) Lk (.slice oa i oc) (idsG i) q0 #[.int .i64 x.k, .int .i64 x.fr, .int .i64 x.mo, .slice xa x.b.length xc] q1 #[.int .i64 i, .int .i64 bb, .int .i64 ee, .int .i64 2, .int .i64 0, .bool true, .int .i64 (s : Int), .int .i64 (max x.mo 0), .int .i64 ((s : Int) + (Rd.length : Int)), .int .i64 (s : Int), .slice xa x.b.length xc, .slice a5 RT.length cg5] ∧ OwnRec (W11.setCell ⟨q1, 9, none⟩ (.int .i64 (s : Int))) w.heap.size (.slice a5 RT.length cg5) RT from ⟨H11.out.1.set 9 (.int .i64 (s : Int)) rfl, H11.out.2.but (grown_setCell _ _ _ _) H11.out.1.c (by decide) (by decide)⟩)
              generalize (W11.setCell ⟨q1, 9, none⟩ (.int .i64 (s : Int))) = W12 at *
              clear H11
              obtain ⟨p0, p1, p2, p3, pf⟩ := blk4 H12.out.1.x
              obtain ⟨c0, c1, c2, c3, c4, c5, c6, c7, c8, c9, c10, c11, cf⟩ := blk12 H12.out.1.c

              have HDE := hid_mk (show DE w W12 ⟨⟨i, bb, ee, 2, 0, true, (s : Int), max x.mo 0, ((s : Int) + (Rd.length : Int)), (s : Int), x.b, RT.map (·.1)⟩, .slice xa x.b.length xc, .slice a5 RT.length cg5, RT⟩ from ⟨HBY.out, H12.out.2, rfl, ⟨HX.out.2.1, HTL.out, fun p hp => HK.out.1.sz p (HTR.out p hp)⟩⟩)
              obtain ⟨a', c', W8, hr, hm⟩ := H12.out.1.addl HK.out.2.1 h60 HDE.out (H8.out.2.2) 40
              have HR := hid_mk (show (Builtin.append_ #[40, 40] 40 #[.slice la i lc, .slice (some ⟨W12.heap.size, 0, none⟩) 1 1]).run Try.prog (W12.alloc (.cells #[.int .i64 i, .int .i64 bb, .int .i64 ee, .int .i64 2, .int .i64 0, .bool true, .int .i64 (s : Int), .int .i64 (max x.mo 0), .int .i64 ((s : Int) + (Rd.length : Int)), .int .i64 (s : Int), .slice xa x.b.length xc, .slice a5 RT.length cg5] 55)) = .ok (.slice a' (i + 1) c') W8 ∧ MaI w W8 bd (vl) (Rd) (s) (.slice a' (i + 1) c') (Lk ++ [⟨⟨i, bb, ee, 2, 0, true, (s : Int), max x.mo 0, ((s : Int) + (Rd.length : Int)), (s : Int), x.b, RT.map (·.1)⟩, .slice xa x.b.length xc, .slice a5 RT.length cg5, RT⟩]) (.slice oa i oc) (idsG i) from ⟨hr, hm⟩)
              clear hr hm HDE
              go_upto_region 26 with (at_builtin; refine wp_run_app rfl (.tmp 111) (.tmp 113) rfl rfl rfl HR.out.1 ?_)
              clear p0 p1 p2 p3 pf c0 c1 c2 c3 c4 c5 c6 c7 c8 c9 c10 c11 cf

              obtain ⟨a2, c2', W9, hr2, hm2⟩ := HR.out.2.addi h60 41
              have HR2 := hid_mk (And.intro hr2 hm2)
              have HKL := hid_mk (show (Lk ++ [(⟨⟨i, bb, ee, 2, 0, true, (s : Int), max x.mo 0, ((s : Int) + (Rd.length : Int)), (s : Int), x.b, RT.map (·.1)⟩, .slice xa x.b.length xc, .slice a5 RT.length cg5, RT⟩ : CE)]).length = i + 1 from by rw [List.length_append, HK.out.2.1]; rfl)
              clear hr2 hm2 HR
              go_wp2_with (at_builtin; refine wp_run_app rfl (.tmp 115) (.tmp 117) rfl rfl rfl HR2.out.1 ?_)
              go_roundg (L.length - (i + 1))
              case measure => omega
              case rel => exact ⟨i + 1, a', c', a2, c2', _, _, _, _, by omega, by omega, rfl, rfl, rfl, by go_num, hid_mk ⟨HR2.out.2, HPI.out, HKL.out⟩⟩
        · have hw' : ¬ (i : Int) < o.length := by omega
          go_upto_region 11 with fail

          go_upto_region 12 with fail
          obtain ⟨bb, hbb⟩ : ∃ bb, bb = max 0 (10 * (i : Int)) := ⟨_, rfl⟩
          obtain ⟨ee, hee⟩ : ∃ ee, ee = 10 * (i : Int) + 1 := ⟨_, rfl⟩
          rw [← hbb, ← hee]
          have HBE := hid_mk (show 0 ≤ bb ∧ bb ≤ 10 * (i : Int) ∧ 10 * (i : Int) < ee ∧ ee ≤ 10 * i + 57 from by rw [hbb, hee]; omega)
          clear hbb hee
          have HC := hid_mk (CI.start HB.out.1 HB.out.2.1 #[.int .i64 i, .int .i64 bb, .int .i64 ee, .int .i64 1, .int .i64 0, .bool true, .int .i64 0, .int .i64 0, .int .i64 0, .int .i64 0, .slice xa x.b.length xc, .slice none 0 0])
          have HK := hid_mk HB.out.2.2
          have HK := hid_mk (And.intro HB.out.2.2.1 (And.intro HB.out.2.2.2 trivial))
          generalize (W1.alloc (.cells #[.int .i64 i, .int .i64 bb, .int .i64 ee, .int .i64 1, .int .i64 0, .bool true, .int .i64 0, .int .i64 0, .int .i64 0, .int .i64 0, .slice xa x.b.length xc, .slice none 0 0] 55)) = W2 at *
          generalize W1.heap.size = q1 at *
          clear p0 p1 p2 p3 pf HB
          obtain ⟨p0, p1, p2, p3, pf⟩ := blk4 HC.out.x
          obtain ⟨c0, c1, c2, c3, c4, c5, c6, c7, c8, c9, c10, c11, cf⟩ := blk12 HC.out.c

          by_cases hk0 : x.k = 0
          ·
            rw [hk0] at p0
            go_wp2_with fail
            have hfit : s + Rd.length + 1 ≤ 5864062014805 := by have := HK.out.1.le; have := HK.out.2.1; omega
            refine (dput_any HC.out.m.d HC.out.m.gr.size x.b _ (HBY.out.kept HC.out.m.gr) HX.out.2.1 hfit).mono ?_
            rintro e W3 ⟨rfl, vl', x1, h2, h3, h4⟩
            have H3 := hid_mk (show CI w W3 bd vl' (Rd ++ [(x.b, x1)]) (s) (.slice la i lc) Lk (.slice oa i oc) (idsG i) q0 #[.int .i64 x.k, .int .i64 x.fr, .int .i64 x.mo, .slice xa x.b.length xc] q1 #[.int .i64 i, .int .i64 bb, .int .i64 ee, .int .i64 1, .int .i64 0, .bool true, .int .i64 0, .int .i64 0, .int .i64 0, .int .i64 0, .slice xa x.b.length xc, .slice none 0 0] from HC.out.dcall h2 h3)
            have HPI := hid_mk (HK.out.1.put HK.out.2.1 h60 HBE.out x.b HX.out.2.1 (.slice xa x.b.length xc) (.slice none 0 0) x1)
            clear h2 h3 h4 hfit HC
            clear p0 p1 p2 p3 pf c0 c1 c2 c3 c4 c5 c6 c7 c8 c9 c10 c11 cf
            obtain ⟨p0, p1, p2, p3, pf⟩ := blk4 H3.out.x
            obtain ⟨c0, c1, c2, c3, c4, c5, c6, c7, c8, c9, c10, c11, cf⟩ := blk12 H3.out.c

            go_upto_region 25 with fail
            clear p0 p1 p2 p3 pf c0 c1 c2 c3 c4 c5 c6 c7 c8 c9 c10 c11 cf

            have H4 := hid_mk (show CI w (W3.setCell ⟨q1, 8, none⟩ (.int .i64 ((s : Int) + (Rd.length : Int)))) bd vl' (Rd ++ [(x.b, x1)]) (s) (.slice la i lc) Lk (.slice oa i oc) (idsG i) q0 #[.int .i64 x.k, .int .i64 x.fr, .int .i64 x.mo, .slice xa x.b.length xc] q1 #[.int .i64 i, .int .i64 bb, .int .i64 ee, .int .i64 1, .int .i64 0, .bool true, .int .i64 0, .int .i64 0, .int .i64 ((s : Int) + (Rd.length : Int)), .int .i64 0, .slice xa x.b.length xc, .slice none 0 0] from H3.out.set 8 (.int .i64 ((s : Int) + (Rd.length : Int))) rfl)
            generalize (W3.setCell ⟨q1, 8, none⟩ (.int .i64 ((s : Int) + (Rd.length : Int)))) = W4 at *
            clear H3
            obtain ⟨p0, p1, p2, p3, pf⟩ := blk4 H4.out.x
            obtain ⟨c0, c1, c2, c3, c4, c5, c6, c7, c8, c9, c10, c11, cf⟩ := blk12 H4.out.c

            have HDE := hid_mk (show DE w W4 ⟨⟨i, bb, ee, 1, 0, true, 0, 0, ((s : Int) + (Rd.length : Int)), 0, x.b, []⟩, .slice xa x.b.length xc, .slice none 0 0, []⟩ from ⟨HBY.out, OwnRec.nil _ _, rfl, ⟨HX.out.2.1, by simp, fun p hp => (by cases hp)⟩⟩)
            obtain ⟨a', c', W8, hr, hm⟩ := H4.out.addl HK.out.2.1 h60 HDE.out (fun k e => by cases e) 40
            have HR := hid_mk (show (Builtin.append_ #[40, 40] 40 #[.slice la i lc, .slice (some ⟨W4.heap.size, 0, none⟩) 1 1]).run Try.prog (W4.alloc (.cells #[.int .i64 i, .int .i64 bb, .int .i64 ee, .int .i64 1, .int .i64 0, .bool true, .int .i64 0, .int .i64 0, .int .i64 ((s : Int) + (Rd.length : Int)), .int .i64 0, .slice xa x.b.length xc, .slice none 0 0] 55)) = .ok (.slice a' (i + 1) c') W8 ∧ MaI w W8 bd (vl') (Rd ++ [(x.b, x1)]) (s) (.slice a' (i + 1) c') (Lk ++ [⟨⟨i, bb, ee, 1, 0, true, 0, 0, ((s : Int) + (Rd.length : Int)), 0, x.b, []⟩, .slice xa x.b.length xc, .slice none 0 0, []⟩]) (.slice oa i oc) (idsG i) from ⟨hr, hm⟩)
            clear hr hm HDE
            go_upto_region 26 with (at_builtin; refine wp_run_app rfl (.tmp 111) (.tmp 113) rfl rfl rfl HR.out.1 ?_)
            clear p0 p1 p2 p3 pf c0 c1 c2 c3 c4 c5 c6 c7 c8 c9 c10 c11 cf

            obtain ⟨a2, c2', W9, hr2, hm2⟩ := HR.out.2.addi h60 41
            have HR2 := hid_mk (And.intro hr2 hm2)
            have HKL := hid_mk (show (Lk ++ [(⟨⟨i, bb, ee, 1, 0, true, 0, 0, ((s : Int) + (Rd.length : Int)), 0, x.b, []⟩, .slice xa x.b.length xc, .slice none 0 0, []⟩ : CE)]).length = i + 1 from by rw [List.length_append, HK.out.2.1]; rfl)
            clear hr2 hm2 HR
            go_wp2_with (at_builtin; refine wp_run_app rfl (.tmp 115) (.tmp 117) rfl rfl rfl HR2.out.1 ?_)
            go_roundg (L.length - (i + 1))
            case measure => omega
            case rel => exact ⟨i + 1, a', c', a2, c2', _, _, _, _, by omega, by omega, rfl, rfl, rfl, by go_num, hid_mk ⟨HR2.out.2, HPI.out, HKL.out⟩⟩

          · by_cases hk1 : x.k = 1
            ·
              rw [hk1] at p0

              go_upto_region 23 with fail
              clear p0 p1 p2 p3 pf c0 c1 c2 c3 c4 c5 c6 c7 c8 c9 c10 c11 cf

              have H3 := hid_mk (show CI w (W2.setCell ⟨q1, 3, none⟩ (.int .i64 3)) bd vl (Rd) (s) (.slice la i lc) Lk (.slice oa i oc) (idsG i) q0 #[.int .i64 x.k, .int .i64 x.fr, .int .i64 x.mo, .slice xa x.b.length xc] q1 #[.int .i64 i, .int .i64 bb, .int .i64 ee, .int .i64 3, .int .i64 0, .bool true, .int .i64 0, .int .i64 0, .int .i64 0, .int .i64 0, .slice xa x.b.length xc, .slice none 0 0] from HC.out.set 3 (.int .i64 3) rfl)
              generalize (W2.setCell ⟨q1, 3, none⟩ (.int .i64 3)) = W3 at *
              clear HC
              obtain ⟨p0, p1, p2, p3, pf⟩ := blk4 H3.out.x
              obtain ⟨c0, c1, c2, c3, c4, c5, c6, c7, c8, c9, c10, c11, cf⟩ := blk12 H3.out.c
              clear p0

              go_upto_region 24 with fail
              clear p1 p2 p3 pf c0 c1 c2 c3 c4 c5 c6 c7 c8 c9 c10 c11 cf

              have H4 := hid_mk (show CI w (W3.setCell ⟨q1, 6, none⟩ (.int .i64 x.fr)) bd vl (Rd) (s) (.slice la i lc) Lk (.slice oa i oc) (idsG i) q0 #[.int .i64 x.k, .int .i64 x.fr, .int .i64 x.mo, .slice xa x.b.length xc] q1 #[.int .i64 i, .int .i64 bb, .int .i64 ee, .int .i64 3, .int .i64 0, .bool true, .int .i64 x.fr, .int .i64 0, .int .i64 0, .int .i64 0, .slice xa x.b.length xc, .slice none 0 0] from H3.out.set 6 (.int .i64 x.fr) rfl)
              generalize (W3.setCell ⟨q1, 6, none⟩ (.int .i64 x.fr)) = W4 at *
              clear H3
              obtain ⟨p0, p1, p2, p3, pf⟩ := blk4 H4.out.x
              obtain ⟨c0, c1, c2, c3, c4, c5, c6, c7, c8, c9, c10, c11, cf⟩ := blk12 H4.out.c

              go_wp2_with fail
              refine (dtrim_any H4.out.m.d H4.out.m.gr.size x.fr).mono ?_
              rintro e W5 ⟨rfl, vl', h2, h3⟩
              have HPI := hid_mk (HK.out.1.trim HK.out.2.1 h60 HBE.out x.b x.fr (.slice xa x.b.length xc) (.slice none 0 0))
              have H5 := hid_mk (H4.out.dcall h2 h3)
              clear h2 h3 H4
              generalize goneM ⟨s, Rd.map (·.1)⟩ x.fr = gn at *
              clear p0 p1 p2 p3 pf c0 c1 c2 c3 c4 c5 c6 c7 c8 c9 c10 c11 cf
              obtain ⟨p0, p1, p2, p3, pf⟩ := blk4 H5.out.x
              obtain ⟨c0, c1, c2, c3, c4, c5, c6, c7, c8, c9, c10, c11, cf⟩ := blk12 H5.out.c

              go_upto_region 25 with fail
              clear p0 p1 p2 p3 pf c0 c1 c2 c3 c4 c5 c6 c7 c8 c9 c10 c11 cf

              have H6 := hid_mk (show CI w (W5.setCell ⟨q1, 9, none⟩ (.int .i64 ((s : Int) + (gn : Int)))) bd vl' (Rd.drop gn) (s + gn) (.slice la i lc) Lk (.slice oa i oc) (idsG i) q0 #[.int .i64 x.k, .int .i64 x.fr, .int .i64 x.mo, .slice xa x.b.length xc] q1 #[.int .i64 i, .int .i64 bb, .int .i64 ee, .int .i64 3, .int .i64 0, .bool true, .int .i64 x.fr, .int .i64 0, .int .i64 0, .int .i64 ((s : Int) + (gn : Int)), .slice xa x.b.length xc, .slice none 0 0] from H5.out.set 9 (.int .i64 ((s : Int) + (gn : Int))) rfl)
              generalize (W5.setCell ⟨q1, 9, none⟩ (.int .i64 ((s : Int) + (gn : Int)))) = W6 at *
              clear H5
              obtain ⟨p0, p1, p2, p3, pf⟩ := blk4 H6.out.x
              obtain ⟨c0, c1, c2, c3, c4, c5, c6, c7, c8, c9, c10, c11, cf⟩ := blk12 H6.out.c

              have HDE := hid_mk (show DE w W6 ⟨⟨i, bb, ee, 3, 0, true, x.fr, 0, 0, ((s : Int) + (gn : Int)), x.b, []⟩, .slice xa x.b.length xc, .slice none 0 0, []⟩ from ⟨HBY.out, OwnRec.nil _ _, rfl, ⟨HX.out.2.1, by simp, fun p hp => (by cases hp)⟩⟩)
              obtain ⟨a', c', W8, hr, hm⟩ := H6.out.addl HK.out.2.1 h60 HDE.out (fun k e => by cases e) 40
              have HR := hid_mk (show (Builtin.append_ #[40, 40] 40 #[.slice la i lc, .slice (some ⟨W6.heap.size, 0, none⟩) 1 1]).run Try.prog (W6.alloc (.cells #[.int .i64 i, .int .i64 bb, .int .i64 ee, .int .i64 3, .int .i64 0, .bool true, .int .i64 x.fr, .int .i64 0, .int .i64 0, .int .i64 ((s : Int) + (gn : Int)), .slice xa x.b.length xc, .slice none 0 0] 55)) = .ok (.slice a' (i + 1) c') W8 ∧ MaI w W8 bd (vl') (Rd.drop gn) (s + gn) (.slice a' (i + 1) c') (Lk ++ [⟨⟨i, bb, ee, 3, 0, true, x.fr, 0, 0, ((s : Int) + (gn : Int)), x.b, []⟩, .slice xa x.b.length xc, .slice none 0 0, []⟩]) (.slice oa i oc) (idsG i) from ⟨hr, hm⟩)
              clear hr hm HDE
              go_upto_region 26 with (at_builtin; refine wp_run_app rfl (.tmp 111) (.tmp 113) rfl rfl rfl HR.out.1 ?_)
              clear p0 p1 p2 p3 pf c0 c1 c2 c3 c4 c5 c6 c7 c8 c9 c10 c11 cf

              obtain ⟨a2, c2', W9, hr2, hm2⟩ := HR.out.2.addi h60 41
              have HR2 := hid_mk (And.intro hr2 hm2)
              have HKL := hid_mk (show (Lk ++ [(⟨⟨i, bb, ee, 3, 0, true, x.fr, 0, 0, ((s : Int) + (gn : Int)), x.b, []⟩, .slice xa x.b.length xc, .slice none 0 0, []⟩ : CE)]).length = i + 1 from by rw [List.length_append, HK.out.2.1]; rfl)
              clear hr2 hm2 HR
              go_wp2_with (at_builtin; refine wp_run_app rfl (.tmp 115) (.tmp 117) rfl rfl rfl HR2.out.1 ?_)
              go_roundg (L.length - (i + 1))
              case measure => omega
              case rel => exact ⟨i + 1, a', c', a2, c2', _, _, _, _, by omega, by omega, rfl, rfl, rfl, by go_num, hid_mk ⟨HR2.out.2, HPI.out, HKL.out⟩⟩

            ·
              go_upto_region 14 with fail
              have HKK := hid_mk (And.intro hk0 hk1)
              clear hk0 hk1
              clear p0 p1 p2 p3 pf c0 c1 c2 c3 c4 c5 c6 c7 c8 c9 c10 c11 cf

              have H3 := hid_mk (show CI w (W2.setCell ⟨q1, 3, none⟩ (.int .i64 2)) bd vl (Rd) (s) (.slice la i lc) Lk (.slice oa i oc) (idsG i) q0 #[.int .i64 x.k, .int .i64 x.fr, .int .i64 x.mo, .slice xa x.b.length xc] q1 #[.int .i64 i, .int .i64 bb, .int .i64 ee, .int .i64 2, .int .i64 0, .bool true, .int .i64 0, .int .i64 0, .int .i64 0, .int .i64 0, .slice xa x.b.length xc, .slice none 0 0] from HC.out.set 3 (.int .i64 2) rfl)
              generalize (W2.setCell ⟨q1, 3, none⟩ (.int .i64 2)) = W3 at *
              clear HC
              obtain ⟨p0, p1, p2, p3, pf⟩ := blk4 H3.out.x
              obtain ⟨c0, c1, c2, c3, c4, c5, c6, c7, c8, c9, c10, c11, cf⟩ := blk12 H3.out.c
              obtain ⟨b0, b1, bf⟩ := H3.out.m.d.cells

              go_upto_region 15 with fail
              clear b0 b1 bf p0 p1 p2 p3 pf c0 c1 c2 c3 c4 c5 c6 c7 c8 c9 c10 c11 cf

              have H4 := hid_mk (show CI w (W3.setCell ⟨q1, 6, none⟩ (.int .i64 (s : Int))) bd vl (Rd) (s) (.slice la i lc) Lk (.slice oa i oc) (idsG i) q0 #[.int .i64 x.k, .int .i64 x.fr, .int .i64 x.mo, .slice xa x.b.length xc] q1 #[.int .i64 i, .int .i64 bb, .int .i64 ee, .int .i64 2, .int .i64 0, .bool true, .int .i64 (s : Int), .int .i64 0, .int .i64 0, .int .i64 0, .slice xa x.b.length xc, .slice none 0 0] from H3.out.set 6 (.int .i64 (s : Int)) rfl)
              generalize (W3.setCell ⟨q1, 6, none⟩ (.int .i64 (s : Int))) = W4 at *
              clear H3
              obtain ⟨p0, p1, p2, p3, pf⟩ := blk4 H4.out.x
              obtain ⟨c0, c1, c2, c3, c4, c5, c6, c7, c8, c9, c10, c11, cf⟩ := blk12 H4.out.c

              go_upto_region 16 with fail
              clear p0 p1 p2 p3 pf c0 c1 c2 c3 c4 c5 c6 c7 c8 c9 c10 c11 cf

              have H5 := hid_mk (show CI w (W4.setCell ⟨q1, 7, none⟩ (.int .i64 (max x.mo 0))) bd vl (Rd) (s) (.slice la i lc) Lk (.slice oa i oc) (idsG i) q0 #[.int .i64 x.k, .int .i64 x.fr, .int .i64 x.mo, .slice xa x.b.length xc] q1 #[.int .i64 i, .int .i64 bb, .int .i64 ee, .int .i64 2, .int .i64 0, .bool true, .int .i64 (s : Int), .int .i64 (max x.mo 0), .int .i64 0, .int .i64 0, .slice xa x.b.length xc, .slice none 0 0] from H4.out.set 7 (.int .i64 (max x.mo 0)) rfl)
              generalize (W4.setCell ⟨q1, 7, none⟩ (.int .i64 (max x.mo 0))) = W5 at *
              clear H4
              obtain ⟨p0, p1, p2, p3, pf⟩ := blk4 H5.out.x
              obtain ⟨c0, c1, c2, c3, c4, c5, c6, c7, c8, c9, c10, c11, cf⟩ := blk12 H5.out.c
              clear p0 p1 p2 p3 pf c0 c1 c2 c3 c4 c5 c6 c7 c8 c9 c10 c11 cf

              have HCL := hid_mk (fun (W : World) (hW : Blk W bd #[.int .i64 s, vl] 28 ∧ ∃ v, Blk W q1 #[.int .i64 i, .int .i64 bb, .int .i64 ee, .int .i64 2, .int .i64 0, .bool true, .int .i64 (s : Int), .int .i64 (max x.mo 0), .int .i64 0, .int .i64 0, .slice xa x.b.length xc, v] 55) => show W.cell? ⟨bd, 0, none⟩ = some (.int .i64 s) ∧ W.cell? ⟨bd, 1, none⟩ = some vl ∧ (∀ i, W.frozen? ⟨bd, i, none⟩ = false) ∧ W.cell? ⟨q1, 7, none⟩ = some (.int .i64 (max x.mo 0)) ∧ (∀ i, W.frozen? ⟨q1, i, none⟩ = false) from ⟨hW.1.cell 0, hW.1.cell 1, hW.1.frozen, by obtain ⟨_, v, hv⟩ := hW; exact hv.cell 7, by obtain ⟨_, v, hv⟩ := hW; exact hv.frozen⟩)
              refine wp_region_mix [(0, true), (1, true), (2, true), (3, true), (4, true), (5, true), (6, true), (7, false), (8, true), (9, true), (10, true), (11, true), (12, false)] (at0 W5 (fun W => Blk W bd #[.int .i64 s, vl] 28 ∧ ∃ v, Blk W q1 #[.int .i64 i, .int .i64 bb, .int .i64 ee, .int .i64 2, .int .i64 0, .bool true, .int .i64 (s : Int), .int .i64 (max x.mo 0), .int .i64 0, .int .i64 0, .slice xa x.b.length xc, v] 55)) (by kernel_rfl) (by kernel_rfl) rfl (by kernel_rfl) (shut_at0 (fun m => ⟨H5.out.m.d.blk.kept (grown_drewN _ m none) (by simp), _, H5.out.c.kept (grown_drewN _ m none) (by simp)⟩)) ⟨1, rfl⟩ ?_
              repeat (refine mix_rd1 rfl rfl (fun K hK => ?_); apply Exists.intro; refine ⟨fun W hW => ?_, ?_⟩; (obtain ⟨b0, b1, bf, c7, cf⟩ := HCL.out W hW; go_simp; rfl); (go_simp; refine hK _ _ ?_; clear hK K))
              refine mix_call rfl rfl 15 #[.pointer (some ⟨bd, 0, none⟩), .int .i64 s, .int .i64 (max x.mo 0)] (fun W0 => by go_simp) ?_
              rintro W0 ⟨m1, rfl⟩
              have hd1 := H5.out.grown (grown_drewN W5 m1 none)
              refine (dget_any hd1.m.d hd1.m.gr.size s (max x.mo 0) (by simp [hasM, Mo.next]; omega)).mono ?_
              rintro e W6 ⟨v', rfl, ho, hnew, hg⟩
              obtain ⟨a5, cg5, rfl⟩ := ho.len
              have HPI := hid_mk (HK.out.1.get HK.out.2.1 h60 HBE.out x.b (max x.mo 0) (.slice xa x.b.length xc) (.slice a5 (toldR Rd s s (max x.mo 0)).length cg5) (toldR Rd s s (max x.mo 0)))
              have HTR := hid_mk (show ∀ p ∈ toldR Rd s s (max x.mo 0), p ∈ Rd from fun p hp => List.mem_of_mem_drop (List.mem_of_mem_take hp))
              have HTL := hid_mk (show (toldR Rd s s (max x.mo 0)).length ≤ 5864062014805 from by
                have := HK.out.1.le
                have := HK.out.2.1
                unfold toldR
                rw [List.length_take, List.length_drop]
                omega)
              generalize toldR Rd s s (max x.mo 0) = RT at *
              have H6 := hid_mk (show CI w W6 bd vl (Rd) (s) (.slice la i lc) Lk (.slice oa i oc) (idsG i) q0 #[.int .i64 x.k, .int .i64 x.fr, .int .i64 x.mo, .slice xa x.b.length xc] q1 #[.int .i64 i, .int .i64 bb, .int .i64 ee, .int .i64 2, .int .i64 0, .bool true, .int .i64 (s : Int), .int .i64 (max x.mo 0), .int .i64 0, .int .i64 0, .slice xa x.b.length xc, .slice none 0 0] ∧ OwnRec W6 w.heap.size (.slice a5 RT.length cg5) RT ∧ ∀ k, (Value.slice a5 RT.length cg5).ownBlock = some k → vl.ownBlock ≠ some k from ⟨hd1.grown hg, ho, fun k e e' => by
                have h1 := hnew k e
                have h2 := (owns_lt hd1.m.d.row.1 e').2
                omega⟩)
              clear hd1 ho hnew hg H5
              refine ⟨_, rfl, at0 W6 (fun W => Blk W bd #[.int .i64 s, vl] 28 ∧ ∃ v, Blk W q1 #[.int .i64 i, .int .i64 bb, .int .i64 ee, .int .i64 2, .int .i64 0, .bool true, .int .i64 (s : Int), .int .i64 (max x.mo 0), .int .i64 0, .int .i64 0, .slice xa x.b.length xc, v] 55), ⟨0, rfl⟩, shut_at0 (fun m => ⟨H6.out.1.m.d.blk.kept (grown_drewN _ m none) (by simp), _, H6.out.1.c.kept (grown_drewN _ m none) (by simp)⟩), fun _ h => h, ?_⟩
              go_simp
              repeat (refine mix_rd1 rfl rfl (fun K hK => ?_); apply Exists.intro; refine ⟨fun W hW => ?_, ?_⟩; (obtain ⟨b0, b1, bf, c7, cf⟩ := HCL.out W hW; go_simp; rfl); (go_simp; refine hK _ _ ?_; clear hK K))
              refine mix_skip rfl rfl ?_
              rintro W0 ⟨m2, rfl⟩
              have H7 := hid_mk (show CI w (W6.drewN m2) bd vl (Rd) (s) (.slice la i lc) Lk (.slice oa i oc) (idsG i) q0 #[.int .i64 x.k, .int .i64 x.fr, .int .i64 x.mo, .slice xa x.b.length xc] q1 #[.int .i64 i, .int .i64 bb, .int .i64 ee, .int .i64 2, .int .i64 0, .bool true, .int .i64 (s : Int), .int .i64 (max x.mo 0), .int .i64 0, .int .i64 0, .slice xa x.b.length xc, .slice none 0 0] ∧ OwnRec (W6.drewN m2) w.heap.size (.slice a5 RT.length cg5) RT from ⟨H6.out.1.grown (grown_drewN _ m2 none), H6.out.2.1.kept (grown_drewN _ m2 none)⟩)
              obtain ⟨c0, c1, c2, c3, c4, c5, c6, c7, c8, c9, c10, c11, cf⟩ := blk12 H7.out.1.c
              refine ⟨(W6.drewN m2).setCell ⟨q1, 11, none⟩ (.slice a5 RT.length cg5), by go_simp, ?_⟩
              clear c0 c1 c2 c3 c4 c5 c6 c7 c8 c9 c10 c11 cf HCL
              have H8 := hid_mk (show CI w ((W6.drewN m2).setCell ⟨q1, 11, none⟩ (.slice a5 RT.length cg5)) bd vl (Rd) (s) (.slice la i lc) Lk (.slice oa i oc) (idsG i) q0 #[.int .i64 x.k, .int .i64 x.fr, .int .i64 x.mo, .slice xa x.b.length xc] q1 #[.int .i64 i, .int .i64 bb, .int .i64 ee, .int .i64 2, .int .i64 0, .bool true, .int .i64 (s : Int), .int .i64 (max x.mo 0), .int .i64 0, .int .i64 0, .slice xa x.b.length xc, .slice a5 RT.length cg5] ∧ OwnRec ((W6.drewN m2).setCell ⟨q1, 11, none⟩ (.slice a5 RT.length cg5)) w.heap.size (.slice a5 RT.length cg5) RT ∧ ∀ k, (Value.slice a5 RT.length cg5).ownBlock = some k → vl.ownBlock ≠ some k from ⟨H7.out.1.set 11 (.slice a5 RT.length cg5) rfl, H7.out.2.but (grown_setCell _ _ _ _) H7.out.1.c (by decide) (by decide), H6.out.2.2⟩)
              generalize ((W6.drewN m2).setCell ⟨q1, 11, none⟩ (.slice a5 RT.length cg5)) = W7 at *
              refine ⟨at0 W7 (fun W => Blk W bd #[.int .i64 s, vl] 28 ∧ ∃ v, Blk W q1 #[.int .i64 i, .int .i64 bb, .int .i64 ee, .int .i64 2, .int .i64 0, .bool true, .int .i64 (s : Int), .int .i64 (max x.mo 0), .int .i64 0, .int .i64 0, .slice xa x.b.length xc, v] 55), ⟨0, rfl⟩, shut_at0 (fun m => ⟨H8.out.1.m.d.blk.kept (grown_drewN _ m none) (by simp), _, H8.out.1.c.kept (grown_drewN _ m none) (by simp)⟩), fun _ h => h, ?_⟩
              go_simp
              refine mix_nil ?_
              rintro W0 ⟨m9, rfl⟩
              have H8' := hid_mk (show CI w (W7.drewN m9) bd vl (Rd) (s) (.slice la i lc) Lk (.slice oa i oc) (idsG i) q0 #[.int .i64 x.k, .int .i64 x.fr, .int .i64 x.mo, .slice xa x.b.length xc] q1 #[.int .i64 i, .int .i64 bb, .int .i64 ee, .int .i64 2, .int .i64 0, .bool true, .int .i64 (s : Int), .int .i64 (max x.mo 0), .int .i64 0, .int .i64 0, .slice xa x.b.length xc, .slice a5 RT.length cg5] ∧ OwnRec (W7.drewN m9) w.heap.size (.slice a5 RT.length cg5) RT ∧ ∀ k, (Value.slice a5 RT.length cg5).ownBlock = some k → vl.ownBlock ≠ some k from ⟨H8.out.1.grown (grown_drewN _ m9 none), H8.out.2.1.kept (grown_drewN _ m9 none), H8.out.2.2⟩)
              clear H6 H7 H8
              have H8 := H8'
              clear H8'
              generalize (W7.drewN m9) = W7 at *
              go_wp2_with fail
              refine (dnext_any H8.out.1.m.d).mono ?_
              rintro e W0 ⟨rfl, m3, rfl⟩
              have H9 := hid_mk (show CI w (W7.drewN m3) bd vl (Rd) (s) (.slice la i lc) Lk (.slice oa i oc) (idsG i) q0 #[.int .i64 x.k, .int .i64 x.fr, .int .i64 x.mo, .slice xa x.b.length xc] q1 #[.int .i64 i, .int .i64 bb, .int .i64 ee, .int .i64 2, .int .i64 0, .bool true, .int .i64 (s : Int), .int .i64 (max x.mo 0), .int .i64 0, .int .i64 0, .slice xa x.b.length xc, .slice a5 RT.length cg5] ∧ OwnRec (W7.drewN m3) w.heap.size (.slice a5 RT.length cg5) RT from ⟨H8.out.1.grown (grown_drewN _ m3 none), H8.out.2.1.kept (grown_drewN _ m3 none)⟩)
              generalize (W7.drewN m3) = W10 at *
              obtain ⟨p0, p1, p2, p3, pf⟩ := blk4 H9.out.1.x
              obtain ⟨c0, c1, c2, c3, c4, c5, c6, c7, c8, c9, c10, c11, cf⟩ := blk12 H9.out.1.c

              go_upto_region 18 with fail
              clear p0 p1 p2 p3 pf c0 c1 c2 c3 c4 c5 c6 c7 c8 c9 c10 c11 cf

              have H11 := hid_mk (show CI w (W10.setCell ⟨q1, 8, none⟩ (.int .i64 ((s : Int) + (Rd.length : Int)))) bd vl (Rd) (s) (.slice la i lc) Lk (.slice oa i oc) (idsG i) q0 #[.int .i64 x.k, .int .i64 x.fr, .int .i64 x.mo, .slice xa x.b.length xc] q1 #[.int .i64 i, .int .i64 bb, .int .i64 ee, .int .i64 2, .int .i64 0, .bool true, .int .i64 (s : Int), .int .i64 (max x.mo 0), .int .i64 ((s : Int) + (Rd.length : Int)), .int .i64 0, .slice xa x.b.length xc, .slice a5 RT.length cg5] ∧ OwnRec (W10.setCell ⟨q1, 8, none⟩ (.int .i64 ((s : Int) + (Rd.length : Int)))) w.heap.size (.slice a5 RT.length cg5) RT from ⟨H9.out.1.set 8 (.int .i64 ((s : Int) + (Rd.length : Int))) rfl, H9.out.2.but (grown_setCell _ _ _ _) H9.out.1.c (by decide) (by decide)⟩)
              generalize (W10.setCell ⟨q1, 8, none⟩ (.int .i64 ((s : Int) + (Rd.length : Int)))) = W11 at *
              clear H9
              obtain ⟨p0, p1, p2, p3, pf⟩ := blk4 H11.out.1.x
              obtain ⟨c0, c1, c2, c3, c4, c5, c6, c7, c8, c9, c10, c11, cf⟩ := blk12 H11.out.1.c
              obtain ⟨b0, b1, bf⟩ := H11.out.1.m.d.cells

              go_upto_region 25 with fail
              clear b0 b1 bf
              clear p0 p1 p2 p3 pf c0 c1 c2 c3 c4 c5 c6 c7 c8 c9 c10 c11 cf

              have H12 := hid_mk (show CI w (W11.setCell ⟨q1, 9, none⟩ (.int .i64 (s : Int))) bd vl (Rd) (s) (.slice la i lc) Lk (.slice oa i oc) (idsG i) q0 #[.int .i64 x.k, .int .i64 x.fr, .int .i64 x.mo, .slice xa x.b.length xc] q1 #[.int .i64 i, .int .i64 bb, .int .i64 ee, .int .i64 2, .int .i64 0, .bool true, .int .i64 (s : Int), .int .i64 (max x.mo 0), .int .i64 ((s : Int) + (Rd.length : Int)), .int .i64 (s : Int), .slice xa x.b.length xc, .slice a5 RT.length cg5] ∧ OwnRec (W11.setCell ⟨q1, 9, none⟩ (.int .i64 (s : Int))) w.heap.size (.slice a5 RT.length cg5) RT from ⟨H11.out.1.set 9 (.int .i64 (s : Int)) rfl, H11.out.2.but (grown_setCell _ _ _ _) H11.out.1.c (by decide) (by decide)⟩)
              generalize (W11.setCell ⟨q1, 9, none⟩ (.int .i64 (s : Int))) = W12 at *
              clear H11
              obtain ⟨p0, p1, p2, p3, pf⟩ := blk4 H12.out.1.x
              obtain ⟨c0, c1, c2, c3, c4, c5, c6, c7, c8, c9, c10, c11, cf⟩ := blk12 H12.out.1.c

              have HDE := hid_mk (show DE w W12 ⟨⟨i, bb, ee, 2, 0, true, (s : Int), max x.mo 0, ((s : Int) + (Rd.length : Int)), (s : Int), x.b, RT.map (·.1)⟩, .slice xa x.b.length xc, .slice a5 RT.length cg5, RT⟩ from ⟨HBY.out, H12.out.2, rfl, ⟨HX.out.2.1, HTL.out, fun p hp => HK.out.1.sz p (HTR.out p hp)⟩⟩)
              obtain ⟨a', c', W8, hr, hm⟩ := H12.out.1.addl HK.out.2.1 h60 HDE.out (H8.out.2.2) 40
              have HR := hid_mk (show (Builtin.append_ #[40, 40] 40 #[.slice la i lc, .slice (some ⟨W12.heap.size, 0, none⟩) 1 1]).run Try.prog (W12.alloc (.cells #[.int .i64 i, .int .i64 bb, .int .i64 ee, .int .i64 2, .int .i64 0, .bool true, .int .i64 (s : Int), .int .i64 (max x.mo 0), .int .i64 ((s : Int) + (Rd.length : Int)), .int .i64 (s : Int), .slice xa x.b.length xc, .slice a5 RT.length cg5] 55)) = .ok (.slice a' (i + 1) c') W8 ∧ MaI w W8 bd (vl) (Rd) (s) (.slice a' (i + 1) c') (Lk ++ [⟨⟨i, bb, ee, 2, 0, true, (s : Int), max x.mo 0, ((s : Int) + (Rd.length : Int)), (s : Int), x.b, RT.map (·.1)⟩, .slice xa x.b.length xc, .slice a5 RT.length cg5, RT⟩]) (.slice oa i oc) (idsG i) from ⟨hr, hm⟩)
              clear hr hm HDE
              go_upto_region 26 with (at_builtin; refine wp_run_app rfl (.tmp 111) (.tmp 113) rfl rfl rfl HR.out.1 ?_)
              clear p0 p1 p2 p3 pf c0 c1 c2 c3 c4 c5 c6 c7 c8 c9 c10 c11 cf

              obtain ⟨a2, c2', W9, hr2, hm2⟩ := HR.out.2.addi h60 41
              have HR2 := hid_mk (And.intro hr2 hm2)
              have HKL := hid_mk (show (Lk ++ [(⟨⟨i, bb, ee, 2, 0, true, (s : Int), max x.mo 0, ((s : Int) + (Rd.length : Int)), (s : Int), x.b, RT.map (·.1)⟩, .slice xa x.b.length xc, .slice a5 RT.length cg5, RT⟩ : CE)]).length = i + 1 from by rw [List.length_append, HK.out.2.1]; rfl)
              clear hr2 hm2 HR
              go_wp2_with (at_builtin; refine wp_run_app rfl (.tmp 115) (.tmp 117) rfl rfl rfl HR2.out.1 ?_)
              go_roundg (L.length - (i + 1))
              case measure => omega
              case rel => exact ⟨i + 1, a', c', a2, c2', _, _, _, _, by omega, by omega, rfl, rfl, rfl, by go_num, hid_mk ⟨HR2.out.2, HPI.out, HKL.out⟩⟩
      · have h60' : ¬ (i : Int) < 60 := by omega
        have HM := hid_mk H.out
        clear H
        go_wp2_with fail
        have h1 := own_any HM.out.1.csr (by rw [HM.out.2.2]; omega) (fun x hx => (HM.out.1.el x hx).fit)

        refine h1.mono ?_
        clear h1
        rintro e w2 ⟨v2, L2, rfl, ho2, hi2, hg2, hw2⟩
        have hl2 : L2.length = i := by have h9 := congrArg List.length hg2; simp [gs] at h9; have h8 := HM.out.2.2; omega
        have HL2 := hid_mk hl2
        have H2 := hid_mk (show CsR w2 v2 L2 ∧ (∀ x ∈ L2, x.R.length ≤ 5864062014805) ∧ gs L2 = gs (Lk) ∧ W.grownBy w2 none from ⟨ho2.red (fun x hx => (hi2 x hx).1.inC), fun x hx => (hi2 x hx).2, hg2, hw2⟩)
        obtain ⟨a2, c2, rfl⟩ := ho2.len
        clear ho2 hi2 hg2 hw2 hl2
        go_wp2_with fail
        refine (legal_any H2.out.1 (by rw [HL2.out]; omega) H2.out.2.1 ((HM.out.1.o.ints).kept H2.out.2.2.2) (by rw [idsG_len]; omega)).mono ?_
        rintro e w3 ⟨rfl, hg3⟩
        rw [H2.out.2.2.1, show legalG (gs (Lk)) (idsG i) = (0, 0) from by have h9 := HM.out.2.1.ok (by rw [HM.out.2.2]; omega); rwa [HM.out.2.2] at h9]
        unfold legV

        have H3 := hid_mk (HM.out.1.grown (grown_trans H2.out.2.2.2 hg3))
        clear hg3 H2 HL2
        by_cases h0 : i = 0
        · have h0' : (i : Int) = 0 := by omega
          subst h0
          go_wp2_with (first | (go_at_call 25; refine (num_any _ _).mono ?_; rintro e w' ⟨rfl, hw⟩; rw [hw]; clear hw) | (go_at_call 9; refine (knows_any _).mono ?_; rintro e w4 ⟨rfl, hg4⟩; have G4 := hid_mk (grown_trans H3.out.gr hg4); clear hg4))
          go_ret
          exact ⟨rfl, G4.out⟩
        · have h0' : ¬ (i : Int) = 0 := by omega
          have HMI := hid_mk (mod_in z i (by omega) (by omega))
          go_upto_region 31 with (go_at_call 25; refine (num_any _ _).mono ?_; rintro e w' ⟨rfl, hw⟩; rw [hw]; clear hw)
          rw [HMI.out.1]
          obtain ⟨kk, hkk⟩ : ∃ kk : Nat, (z.tmod i + i).tmod i = kk := ⟨_, (Int.toNat_of_nonneg HMI.out.2.1).symm⟩
          have HKK := hid_mk (show kk < Lk.length from by have h9 := HMI.out.2.2; rw [hkk] at h9; rw [HM.out.2.2]; omega)
          have hki : kk < i := by have := HKK.out; rw [HM.out.2.2] at this; exact this
          have hki' : (kk : Int) < i := by omega
          rw [hkk]
          clear hkk HMI
          obtain ⟨g, off, cap, he, hfz, hcl, hmod⟩ := H3.out.mod HKK.out
          injection he with e1 e2 e3
          clear e2 e3
          subst e1
          have hkd := HM.out.2.1.kd _ (List.getElem_mem HKK.out)
          have HXE := hid_mk (HM.out.2.1.bad (by rw [HM.out.2.2]; omega) HKK.out)
          have HMOD := hid_mk hmod
          have d3 := hcl 3 _ rfl
          have d8 := hcl 8 _ rfl
          have d9 := hcl 9 _ rfl
          clear hmod hcl
          generalize Lk[kk] = x at *
          obtain ⟨HKD, hn0, hn1, hs0, hs1⟩ := hkd
          have HKD' := hid_mk HKD
          clear HKD
          by_cases h3 : x.g.k = 3
          · have H3k := hid_mk h3
            rw [h3] at d3
            clear h3
            have HS := hid_mk (HMOD.out 9 (.int .i64 (x.g.st + 1)) (badC x) (by omega) (badC_st H3k.out) (badC_same x).1 (badC_same x).2.1 (badC_same x).2.2.1 (badC_same x).2.2.2.1 (badC_same x).2.2.2.2 _ rfl)
            go_upto_region 34 with fail
            generalize (w3.setCell ⟨g, off + kk * 12 + 9, none⟩ (.int .i64 (x.g.st + 1))) = w4 at *
            clear d3 d8 d9 hfz HMOD hn0 hn1 hs0 hs1
            go_wp2_with fail
            have h1 := own_any HS.out.1 (by rw [List.length_set, HM.out.2.2]; omega) HS.out.2.2.2

            refine h1.mono ?_
            clear h1
            rintro e w5 ⟨v2, L2, rfl, ho2, hi2, hg2, hw2⟩
            have hl2 : L2.length = i := by have h9 := congrArg List.length hg2; simp [gs] at h9; have h8 := HM.out.2.2; omega
            have HL2 := hid_mk hl2
            have H2 := hid_mk (show CsR w5 v2 L2 ∧ (∀ x ∈ L2, x.R.length ≤ 5864062014805) ∧ gs L2 = gs (Lk.set kk (badC x)) ∧ w4.grownBy w5 none from ⟨ho2.red (fun x hx => (hi2 x hx).1.inC), fun x hx => (hi2 x hx).2, hg2, hw2⟩)
            obtain ⟨a2, c2, rfl⟩ := ho2.len
            clear ho2 hi2 hg2 hw2 hl2
            go_wp2_with fail
            refine (legal_any H2.out.1 (by rw [HL2.out]; omega) H2.out.2.1 ((HS.out.2.1.ints).kept H2.out.2.2.2) (by rw [idsG_len]; omega)).mono ?_
            rintro e w6 ⟨rfl, hg3⟩
            rw [H2.out.2.2.1, show legalG (gs (Lk.set kk (badC x))) (idsG i) = (kk, 51) from by have h9 := HXE.out; rwa [HM.out.2.2] at h9]
            unfold legV

            have H6 := hid_mk (grown_trans HS.out.2.2.1 (grown_trans H2.out.2.2.2 hg3))
            clear hg3 H2 HS
            go_wp2_with (first | (go_at_call 25; refine (num_any _ _).mono ?_; rintro e w' ⟨rfl, hw⟩; rw [hw]; clear hw) | (go_at_call 9; refine (knows_any _).mono ?_; rintro e w7 ⟨rfl, hg7⟩; have G7 := hid_mk (grown_trans H6.out hg7); clear hg7))
            go_ret
            exact ⟨rfl, G7.out⟩

          · have H3k := hid_mk h3
            have HS := hid_mk (HMOD.out 8 (.int .i64 (x.g.nu + 1)) (badC x) (by omega) (badC_nu H3k.out) (badC_same x).1 (badC_same x).2.1 (badC_same x).2.2.1 (badC_same x).2.2.2.1 (badC_same x).2.2.2.2 _ rfl)
            go_upto_region 34 with fail
            generalize (w3.setCell ⟨g, off + kk * 12 + 8, none⟩ (.int .i64 (x.g.nu + 1))) = w4 at *
            clear d3 d8 d9 hfz HMOD hn0 hn1 hs0 hs1
            go_wp2_with fail
            have h1 := own_any HS.out.1 (by rw [List.length_set, HM.out.2.2]; omega) HS.out.2.2.2

            refine h1.mono ?_
            clear h1
            rintro e w5 ⟨v2, L2, rfl, ho2, hi2, hg2, hw2⟩
            have hl2 : L2.length = i := by have h9 := congrArg List.length hg2; simp [gs] at h9; have h8 := HM.out.2.2; omega
            have HL2 := hid_mk hl2
            have H2 := hid_mk (show CsR w5 v2 L2 ∧ (∀ x ∈ L2, x.R.length ≤ 5864062014805) ∧ gs L2 = gs (Lk.set kk (badC x)) ∧ w4.grownBy w5 none from ⟨ho2.red (fun x hx => (hi2 x hx).1.inC), fun x hx => (hi2 x hx).2, hg2, hw2⟩)
            obtain ⟨a2, c2, rfl⟩ := ho2.len
            clear ho2 hi2 hg2 hw2 hl2
            go_wp2_with fail
            refine (legal_any H2.out.1 (by rw [HL2.out]; omega) H2.out.2.1 ((HS.out.2.1.ints).kept H2.out.2.2.2) (by rw [idsG_len]; omega)).mono ?_
            rintro e w6 ⟨rfl, hg3⟩
            rw [H2.out.2.2.1, show legalG (gs (Lk.set kk (badC x))) (idsG i) = (kk, 51) from by have h9 := HXE.out; rwa [HM.out.2.2] at h9]
            unfold legV

            have H6 := hid_mk (grown_trans HS.out.2.2.1 (grown_trans H2.out.2.2.2 hg3))
            clear hg3 H2 HS
            go_wp2_with (first | (go_at_call 25; refine (num_any _ _).mono ?_; rintro e w' ⟨rfl, hw⟩; rw [hw]; clear hw) | (go_at_call 9; refine (knows_any _).mono ?_; rintro e w7 ⟨rfl, hg7⟩; have G7 := hid_mk (grown_trans H6.out hg7); clear hg7))
            go_ret
            exact ⟨rfl, G7.out⟩
    · have hlt' : ¬ (i : Int) < L.length := by omega
      have HM := hid_mk H.out
      clear H
      go_wp2_with fail
      have h1 := own_any HM.out.1.csr (by rw [HM.out.2.2]; omega) (fun x hx => (HM.out.1.el x hx).fit)

      refine h1.mono ?_
      clear h1
      rintro e w2 ⟨v2, L2, rfl, ho2, hi2, hg2, hw2⟩
      have hl2 : L2.length = i := by have h9 := congrArg List.length hg2; simp [gs] at h9; have h8 := HM.out.2.2; omega
      have HL2 := hid_mk hl2
      have H2 := hid_mk (show CsR w2 v2 L2 ∧ (∀ x ∈ L2, x.R.length ≤ 5864062014805) ∧ gs L2 = gs (Lk) ∧ W.grownBy w2 none from ⟨ho2.red (fun x hx => (hi2 x hx).1.inC), fun x hx => (hi2 x hx).2, hg2, hw2⟩)
      obtain ⟨a2, c2, rfl⟩ := ho2.len
      clear ho2 hi2 hg2 hw2 hl2
      go_wp2_with fail
      refine (legal_any H2.out.1 (by rw [HL2.out]; omega) H2.out.2.1 ((HM.out.1.o.ints).kept H2.out.2.2.2) (by rw [idsG_len]; omega)).mono ?_
      rintro e w3 ⟨rfl, hg3⟩
      rw [H2.out.2.2.1, show legalG (gs (Lk)) (idsG i) = (0, 0) from by have h9 := HM.out.2.1.ok (by rw [HM.out.2.2]; omega); rwa [HM.out.2.2] at h9]
      unfold legV

      have H3 := hid_mk (HM.out.1.grown (grown_trans H2.out.2.2.2 hg3))
      clear hg3 H2 HL2
      by_cases h0 : i = 0
      · have h0' : (i : Int) = 0 := by omega
        subst h0
        go_wp2_with (first | (go_at_call 25; refine (num_any _ _).mono ?_; rintro e w' ⟨rfl, hw⟩; rw [hw]; clear hw) | (go_at_call 9; refine (knows_any _).mono ?_; rintro e w4 ⟨rfl, hg4⟩; have G4 := hid_mk (grown_trans H3.out.gr hg4); clear hg4))
        go_ret
        exact ⟨rfl, G4.out⟩
      · have h0' : ¬ (i : Int) = 0 := by omega
        have HMI := hid_mk (mod_in z i (by omega) (by omega))
        go_upto_region 31 with (go_at_call 25; refine (num_any _ _).mono ?_; rintro e w' ⟨rfl, hw⟩; rw [hw]; clear hw)
        rw [HMI.out.1]
        obtain ⟨kk, hkk⟩ : ∃ kk : Nat, (z.tmod i + i).tmod i = kk := ⟨_, (Int.toNat_of_nonneg HMI.out.2.1).symm⟩
        have HKK := hid_mk (show kk < Lk.length from by have h9 := HMI.out.2.2; rw [hkk] at h9; rw [HM.out.2.2]; omega)
        have hki : kk < i := by have := HKK.out; rw [HM.out.2.2] at this; exact this
        have hki' : (kk : Int) < i := by omega
        rw [hkk]
        clear hkk HMI
        obtain ⟨g, off, cap, he, hfz, hcl, hmod⟩ := H3.out.mod HKK.out
        injection he with e1 e2 e3
        clear e2 e3
        subst e1
        have hkd := HM.out.2.1.kd _ (List.getElem_mem HKK.out)
        have HXE := hid_mk (HM.out.2.1.bad (by rw [HM.out.2.2]; omega) HKK.out)
        have HMOD := hid_mk hmod
        have d3 := hcl 3 _ rfl
        have d8 := hcl 8 _ rfl
        have d9 := hcl 9 _ rfl
        clear hmod hcl
        generalize Lk[kk] = x at *
        obtain ⟨HKD, hn0, hn1, hs0, hs1⟩ := hkd
        have HKD' := hid_mk HKD
        clear HKD
        by_cases h3 : x.g.k = 3
        · have H3k := hid_mk h3
          rw [h3] at d3
          clear h3
          have HS := hid_mk (HMOD.out 9 (.int .i64 (x.g.st + 1)) (badC x) (by omega) (badC_st H3k.out) (badC_same x).1 (badC_same x).2.1 (badC_same x).2.2.1 (badC_same x).2.2.2.1 (badC_same x).2.2.2.2 _ rfl)
          go_upto_region 34 with fail
          generalize (w3.setCell ⟨g, off + kk * 12 + 9, none⟩ (.int .i64 (x.g.st + 1))) = w4 at *
          clear d3 d8 d9 hfz HMOD hn0 hn1 hs0 hs1
          go_wp2_with fail
          have h1 := own_any HS.out.1 (by rw [List.length_set, HM.out.2.2]; omega) HS.out.2.2.2

          refine h1.mono ?_
          clear h1
          rintro e w5 ⟨v2, L2, rfl, ho2, hi2, hg2, hw2⟩
          have hl2 : L2.length = i := by have h9 := congrArg List.length hg2; simp [gs] at h9; have h8 := HM.out.2.2; omega
          have HL2 := hid_mk hl2
          have H2 := hid_mk (show CsR w5 v2 L2 ∧ (∀ x ∈ L2, x.R.length ≤ 5864062014805) ∧ gs L2 = gs (Lk.set kk (badC x)) ∧ w4.grownBy w5 none from ⟨ho2.red (fun x hx => (hi2 x hx).1.inC), fun x hx => (hi2 x hx).2, hg2, hw2⟩)
          obtain ⟨a2, c2, rfl⟩ := ho2.len
          clear ho2 hi2 hg2 hw2 hl2
          go_wp2_with fail
          refine (legal_any H2.out.1 (by rw [HL2.out]; omega) H2.out.2.1 ((HS.out.2.1.ints).kept H2.out.2.2.2) (by rw [idsG_len]; omega)).mono ?_
          rintro e w6 ⟨rfl, hg3⟩
          rw [H2.out.2.2.1, show legalG (gs (Lk.set kk (badC x))) (idsG i) = (kk, 51) from by have h9 := HXE.out; rwa [HM.out.2.2] at h9]
          unfold legV

          have H6 := hid_mk (grown_trans HS.out.2.2.1 (grown_trans H2.out.2.2.2 hg3))
          clear hg3 H2 HS
          go_wp2_with (first | (go_at_call 25; refine (num_any _ _).mono ?_; rintro e w' ⟨rfl, hw⟩; rw [hw]; clear hw) | (go_at_call 9; refine (knows_any _).mono ?_; rintro e w7 ⟨rfl, hg7⟩; have G7 := hid_mk (grown_trans H6.out hg7); clear hg7))
          go_ret
          exact ⟨rfl, G7.out⟩

        · have H3k := hid_mk h3
          have HS := hid_mk (HMOD.out 8 (.int .i64 (x.g.nu + 1)) (badC x) (by omega) (badC_nu H3k.out) (badC_same x).1 (badC_same x).2.1 (badC_same x).2.2.1 (badC_same x).2.2.2.1 (badC_same x).2.2.2.2 _ rfl)
          go_upto_region 34 with fail
          generalize (w3.setCell ⟨g, off + kk * 12 + 8, none⟩ (.int .i64 (x.g.nu + 1))) = w4 at *
          clear d3 d8 d9 hfz HMOD hn0 hn1 hs0 hs1
          go_wp2_with fail
          have h1 := own_any HS.out.1 (by rw [List.length_set, HM.out.2.2]; omega) HS.out.2.2.2

          refine h1.mono ?_
          clear h1
          rintro e w5 ⟨v2, L2, rfl, ho2, hi2, hg2, hw2⟩
          have hl2 : L2.length = i := by have h9 := congrArg List.length hg2; simp [gs] at h9; have h8 := HM.out.2.2; omega
          have HL2 := hid_mk hl2
          have H2 := hid_mk (show CsR w5 v2 L2 ∧ (∀ x ∈ L2, x.R.length ≤ 5864062014805) ∧ gs L2 = gs (Lk.set kk (badC x)) ∧ w4.grownBy w5 none from ⟨ho2.red (fun x hx => (hi2 x hx).1.inC), fun x hx => (hi2 x hx).2, hg2, hw2⟩)
          obtain ⟨a2, c2, rfl⟩ := ho2.len
          clear ho2 hi2 hg2 hw2 hl2
          go_wp2_with fail
          refine (legal_any H2.out.1 (by rw [HL2.out]; omega) H2.out.2.1 ((HS.out.2.1.ints).kept H2.out.2.2.2) (by rw [idsG_len]; omega)).mono ?_
          rintro e w6 ⟨rfl, hg3⟩
          rw [H2.out.2.2.1, show legalG (gs (Lk.set kk (badC x))) (idsG i) = (kk, 51) from by have h9 := HXE.out; rwa [HM.out.2.2] at h9]
          unfold legV

          have H6 := hid_mk (grown_trans HS.out.2.2.1 (grown_trans H2.out.2.2.2 hg3))
          clear hg3 H2 HS
          go_wp2_with (first | (go_at_call 25; refine (num_any _ _).mono ?_; rintro e w' ⟨rfl, hw⟩; rw [hw]; clear hw) | (go_at_call 9; refine (knows_any _).mono ?_; rintro e w7 ⟨rfl, hg7⟩; have G7 := hid_mk (grown_trans H6.out hg7); clear hg7))
          go_ret
          exact ⟨rfl, G7.out⟩
end Go.Proofs.Ythbfjpaimnhpgaa
