/- history: HistoryOne. -/
import Derived.Test.YthbfjpaimnhpgaaHWt
import Derived.Test.YthbfjpaimnhpgaaHWoa
namespace Go.Proofs.Ythbfjpaimnhpgaa
open Go.RowKit Go.Maps
set_option linter.unusedVariables false
set_option linter.unusedSimpArgs false
set_option maxRecDepth 100000

set_option maxHeartbeats 8000000 in
theorem historyOne_walk (v u : Value) (L : List CE) (o : List Int) (w : World) (hL : CsR w v L) (hl : L.length ≤ 1099511627776) (hf : ∀ x ∈ L, FitC x) (ho : IntsR w u o) (hol : o.length ≤ 17592186044416) :
    Calls Try.prog 5 #[v, u] w fun e w' => e = .returned (.bool true) ∧ w.grownBy w' none := by
  obtain ⟨va, vc, hv⟩ := hL.len
  obtain ⟨ua, uc, rfl⟩ := ho.len
  have HL := hid_mk (And.intro hL (And.intro hf (And.intro ho hol)))
  have HV := hid_mk hv
  have hgl : (gs L).length = L.length := by simp [gs]
  rw [hv]
  clear hL hf ho hv
  go_enter Try.func5, Try.ntmps5
  go_wp2_with fail
  have h1 := own_any HL.out.1 hl HL.out.2.1
  rw [HV.out] at h1
  refine h1.mono ?_
  clear h1
  rintro e w1 ⟨v1, L1, rfl, ho1, hi1, hg1, hw1⟩
  have H1 := hid_mk (show CsR w1 v1 L1 ∧ (∀ x ∈ L1, x.R.length ≤ 5864062014805) ∧ gs L1 = gs L ∧ w.grownBy w1 none from ⟨ho1.red (fun x hx => (hi1 x hx).1.inC), fun x hx => (hi1 x hx).2, hg1, hw1⟩)
  have hl1 : L1.length ≤ 1099511627776 := by have h9 := congrArg List.length hg1; simp [gs] at h9; omega
  obtain ⟨a1, c1, rfl⟩ := ho1.len
  clear ho1 hi1 hg1 hw1
  go_wp2_with fail
  refine (legal_any H1.out.1 hl1 H1.out.2.1 (HL.out.2.2.1.kept H1.out.2.2.2) HL.out.2.2.2).mono ?_
  rintro e w2 ⟨rfl, hg2⟩
  rw [H1.out.2.2.1]
  have H2 := hid_mk (grown_trans H1.out.2.2.2 hg2)
  clear hg2 H1 hl1
  unfold legV
  by_cases hok : (legalG (gs L) o).2 = 0
  · have HO := hid_mk (legal_ok.1 hok)
    rw [hok]
    clear hok
    generalize ((legalG (gs L) o).1 : Int) = pl at *
    have hmm := run_makeMap53
    go_wp2_with (go_at_call 25; refine (num_any _ _).mono ?_; rintro e w' ⟨rfl, hw⟩; rw [hw]; clear hw)
    clear hmm
    have H3 := hid_mk (show MapT (w2.alloc (.map #[] 0)) w2.heap.size 0 (mapG (gs L) 0) ∧ w.grownBy (w2.alloc (.map #[] 0)) none from ⟨map_new w2, grown_trans H2.out (World.grownBy_alloc w2 _ none)⟩)
    have HQ := hid_mk (show w.heap.size ≤ w2.heap.size from H2.out.size)
    generalize w2.alloc (.map #[] 0) = w3 at *
    generalize w2.heap.size = mb at *
    clear H2
    have HLn := hid_mk (show L.length ≤ 2000 from by have := HO.out.right.1; omega)
    go_loopg [8] L.length (fun gg iv W => ∃ (i n : Nat), i ≤ L.length ∧ gg = L.length - i ∧ iv = .int .i64 i ∧ Hid (MapT W mb n (mapG (gs L) i) ∧ w.grownBy W none ∧ n ≤ i))
    case atStart => exact ⟨0, 0, Nat.zero_le _, rfl, rfl, hid_mk ⟨H3.out.1, H3.out.2, Nat.le_refl _⟩⟩
    case round =>
      clear H3
      obtain ⟨i, n, hi, hgi, rfl, H⟩ := hrel
      rename World => W
      by_cases hlt : i < L.length
      · have hlt' : (i : Int) < L.length := by omega
        obtain ⟨lb, off, cap, he, hc⟩ := HL.out.1.cells hlt
        rw [HV.out] at he
        injection he with e1 e2 e3
        subst e1
        clear e2 e3
        have HDL := hid_mk (HL.out.2.1 _ (List.getElem_mem hlt)).d
        obtain ⟨d0, d1, d2, d3, d4, d5, d6, d7, d8, d9, d10, d11⟩ := hc W H.out.2.1
        have HG := hid_mk (show (gs L)[i]! = L[i].g from gs_at hlt)
        have HBY := hid_mk (HL.out.1.ins _ (List.getElem_mem hlt)).d
        obtain ⟨xa, xc, hxd⟩ := HBY.out.len
        have HXD := hid_mk hxd
        rw [hxd] at d10
        have HCs := hid_mk (show ∀ W', w.grownBy W' none → W'.cell? ⟨lb, off + i * 12 + 8, none⟩ = some (.int .i64 L[i].g.nu) ∧ W'.cell? ⟨lb, off + i * 12 + 10, none⟩ = some (.slice xa L[i].g.d.length xc) from fun W' hW' => by
          obtain ⟨_, _, _, _, _, _, _, _, h8, _, h10, _⟩ := hc W' hW'
          rw [hxd] at h10
          exact ⟨h8, h10⟩)
        clear hc hxd
        generalize L[i] = x at *
        by_cases hput : x.g.an = true ∧ x.g.k = 1
        · have hnu := HO.out.put_nu (i := i) (by omega) (by rw [HG.out]; exact hput.1) (by rw [HG.out]; exact hput.2)
          have hno := HO.out.map_none (i := i) (by omega) (by rw [HG.out]; exact hput.1) (by rw [HG.out]; exact hput.2)
          rw [HG.out] at hnu hno
          have hlook := H.out.1.look (x := x.g.nu) (by omega) (by omega)
          rw [hno] at hlook
          have HN := hid_mk (show mapG (gs L) (i + 1) = (fun z => if z = x.g.nu then some x.g.d else mapG (gs L) i z) from by
            funext z
            simp only [mapG, HG.out]
            by_cases hz : z = x.g.nu
            · rw [if_pos ⟨hput.1, hput.2, hz⟩, if_pos hz]
            · rw [if_neg (fun e => hz e.2.2), if_neg hz])
          have HNU := hid_mk hnu
          rw [hput.1] at d5
          rw [hput.2] at d3
          simp only [Option.getD_none, Option.isSome_none] at hlook
          clear hput hno hnu
          go_upto_region 12 with fail
          clear d0 d1 d2 d3 d4 d5 d6 d7 d8 d9 d10 d11 hlook
          refine wp_region_mix [(0, true), (1, true), (2, true), (3, true), (4, true), (5, true), (6, true), (7, true), (8, true), (9, true), (10, true), (11, true), (12, false)] (at0 W (fun W' => w.grownBy W' none)) (by kernel_rfl) (by kernel_rfl) rfl (by kernel_rfl) (shut_at0 (fun m => grown_trans H.out.2.1 (grown_drewN _ m none))) ⟨1, rfl⟩ ?_
          repeat (refine mix_rd1 rfl rfl (fun K hK => ?_); apply Exists.intro; refine ⟨fun W' hW => ?_, ?_⟩; (obtain ⟨d8, d10⟩ := HCs.out W' hW; have hct := (HBY.out.kept hW).text; rw [HXD.out] at hct; go_simp; rfl); (go_simp; refine hK _ _ ?_; clear hK K))
          refine mix_skip rfl rfl ?_
          rintro W0 ⟨m1, rfl⟩
          obtain ⟨D, hD⟩ := H.out.1.kept (grown_drewN W m1 none) (by simp)
          have hdl : (ByteArray.mk x.g.d.toArray).size ≤ maxLen := by
            have h9 := HDL.out
            show x.g.d.toArray.size ≤ maxLen
            rw [List.size_toArray]
            unfold maxLen; omega
          obtain ⟨W5, hrun, hown, hgr⟩ := hD.own.update key3 Try.underlying53 (by have := H.out.2.2; have := HLn.out; unfold maxLen; omega) (keyOf_int_mk Try.underlying3 (key_wf (x := x.g.nu) (by have := HNU.out; omega) (by have := HNU.out; omega))) (plainElem_string (H := Unit) Try.underlying9 hdl)
          have H5 := hid_mk (show MapT W5 mb (n + 1) (mapG (gs L) (i + 1)) ∧ w.grownBy W5 none from ⟨by rw [HN.out]; exact hD.put hown, grown_new (grown_trans H.out.2.1 (grown_drewN W m1 none)) hgr HQ.out⟩)
          clear hdl hown hgr
          refine ⟨W5, by go_simp, at0 W5 (fun W' => w.grownBy W' none), ⟨0, rfl⟩, shut_at0 (fun m => grown_trans H5.out.2 (grown_drewN _ m none)), fun _ h => h, ?_⟩
          clear hrun hD D
          go_simp
          refine mix_nil ?_
          rintro W' ⟨m2, rfl⟩
          go_wp2_with fail
          go_roundg (L.length - (i + 1))
          case measure => omega
          case rel => exact ⟨i + 1, n + 1, by omega, rfl, by go_num, hid_mk ⟨H5.out.1.kept (grown_drewN W5 m2 none) (by simp), grown_trans H5.out.2 (grown_drewN W5 m2 none), by have := H.out.2.2; omega⟩⟩
        · have HN := hid_mk (show mapG (gs L) (i + 1) = mapG (gs L) i from by
            funext z
            simp only [mapG, HG.out]
            rw [if_neg (fun e => hput ⟨e.1, e.2.1⟩)])
          by_cases hk1 : x.g.k = 1
          · have han : x.g.an = false := by cases hb : x.g.an; rfl; exact absurd ⟨hb, hk1⟩ hput
            rw [hk1] at d3
            rw [han] at d5
            clear hput hk1 han
            go_wp2_with fail
            go_roundg (L.length - (i + 1))
            case measure => omega
            case rel => exact ⟨i + 1, n, by omega, rfl, by go_num, hid_mk ⟨by rw [HN.out]; exact H.out.1, H.out.2.1, by have := H.out.2.2; omega⟩⟩
          · have hk1' : (x.g.k != 1) = true := by simp [hk1]
            clear hput
            go_wp2_with fail
            go_roundg (L.length - (i + 1))
            case measure => omega
            case rel => exact ⟨i + 1, n, by omega, rfl, by go_num, hid_mk ⟨by rw [HN.out]; exact H.out.1, H.out.2.1, by have := H.out.2.2; omega⟩⟩
      · have hlt' : ¬ (i : Int) < L.length := by omega
        have ei : i = L.length := by omega
        subst ei
        have H6 := hid_mk (show MapT W mb n (mapG (gs L) L.length) ∧ w.grownBy W none from ⟨H.out.1, H.out.2.1⟩)
        clear H
        go_wp2_with fail
        go_loopg [11] L.length (fun gg iv W => ∃ k : Nat, k ≤ L.length ∧ gg = L.length - k ∧ iv = .int .i64 k ∧ Hid (MapT W mb n (mapG (gs L) L.length) ∧ w.grownBy W none))
        case atStart => exact ⟨0, Nat.zero_le _, rfl, rfl, H6⟩
        case round =>
          clear H6
          obtain ⟨k, hk, hgk, rfl, H⟩ := hrel
          rename World => W
          by_cases hlt : k < L.length
          · have hlt' : (k : Int) < L.length := by omega
            obtain ⟨lb, off, cap, he, hc⟩ := HL.out.1.cells hlt
            rw [HV.out] at he
            injection he with e1 e2 e3
            subst e1
            clear e2 e3
            obtain ⟨d0, d1, d2, d3, d4, d5, d6, d7, d8, d9, d10, d11⟩ := hc W H.out.2
            have HG := hid_mk (show (gs L)[k]! = L[k].g from gs_at hlt)
            have hin := HL.out.1.ins _ (List.getElem_mem hlt)
            obtain ⟨⟨ya, yn, yc, hyd⟩, _⟩ := hin.sl
            obtain ⟨ra, rc, hyr⟩ := hin.r.len
            have hr := hin.r
            have hrs := hin.rs
            rw [hyr] at hr d11
            rw [hyd] at d10
            have HR := hid_mk (And.intro hr (And.intro hrs (show k < (gs L).length by omega)))
            clear hc hyd hyr hin hr hrs
            generalize L[k] = y at *
            go_upto_region 17 with fail
            clear d0 d1 d2 d3 d4 d5 d6 d7 d8 d9 d10 d11
            have HB := hid_mk (And.intro (H.out.1.kept (World.grownBy_alloc W (.cells #[.int .i64 y.g.c, .int .i64 y.g.b, .int .i64 y.g.e, .int .i64 y.g.k, .int .i64 y.g.at', .bool y.g.an, .int .i64 y.g.fr, .int .i64 y.g.mo, .int .i64 y.g.nu, .int .i64 y.g.st, .slice ya yn yc, .slice ra y.R.length rc] 55) none) (by simp)) (And.intro (grown_trans H.out.2 (World.grownBy_alloc W (.cells #[.int .i64 y.g.c, .int .i64 y.g.b, .int .i64 y.g.e, .int .i64 y.g.k, .int .i64 y.g.at', .bool y.g.an, .int .i64 y.g.fr, .int .i64 y.g.mo, .int .i64 y.g.nu, .int .i64 y.g.st, .slice ya yn yc, .slice ra y.R.length rc] 55) none)) (blk_alloc W #[.int .i64 y.g.c, .int .i64 y.g.b, .int .i64 y.g.e, .int .i64 y.g.k, .int .i64 y.g.at', .bool y.g.an, .int .i64 y.g.fr, .int .i64 y.g.mo, .int .i64 y.g.nu, .int .i64 y.g.st, .slice ya yn yc, .slice ra y.R.length rc] 55)))
            generalize (W.alloc (.cells #[.int .i64 y.g.c, .int .i64 y.g.b, .int .i64 y.g.e, .int .i64 y.g.k, .int .i64 y.g.at', .bool y.g.an, .int .i64 y.g.fr, .int .i64 y.g.mo, .int .i64 y.g.nu, .int .i64 y.g.st, .slice ya yn yc, .slice ra y.R.length rc] 55)) = W1 at *
            generalize W.heap.size = q1 at *
            clear H
            obtain ⟨p0, p1, p2, p3, p4, p5, p6, p7, p8, p9, p10, p11, pf⟩ := blk12 HB.out.2.2
            clear p0 p1 p2 p4 p7 p8 p9 p10 pf
            by_cases hk2 : y.g.k = 2
            · cases han : y.g.an
              · rw [han] at p5
                clear han
                go_wp2_with fail
                go_roundg (L.length - (k + 1))
                case measure => omega
                case rel => exact ⟨k + 1, by omega, rfl, by go_num, hid_mk ⟨HB.out.1, HB.out.2.1⟩⟩
              · have hfr := HO.out.get_fr HR.out.2.2 (by rw [HG.out]; exact han) (by rw [HG.out]; exact hk2)
                rw [HG.out] at hfr
                have hRl : y.R.length ≤ 2000 := by have h9 := congrArg List.length HR.out.2.1; simp only [List.length_map] at h9; omega
                obtain ⟨hf0, hf1, _⟩ := hfr
                have HMD := hid_mk (show ∀ (t : Nat) d, t < y.R.length → mapG (gs L) L.length (y.g.fr + t) = some d → ∃ p, y.R[t]? = some p ∧ p.1 = d from fun t d ht hm => by
                  have hlen : y.g.rs.length = y.R.length := by rw [← HR.out.2.1, List.length_map]
                  have ht2 : t < (gs L)[k]!.rs.length := by rw [HG.out, hlen]; exact ht
                  have h8 := HO.out.map_data HR.out.2.2 (by rw [HG.out]; exact han) (by rw [HG.out]; exact hk2) ht2 (n := L.length) (by omega) (d := d) (by rw [HG.out]; exact hm)
                  have h7 : (gs L)[k]!.rs[t]? = some d := by rw [List.getElem?_eq_getElem ht2, h8]
                  rw [HG.out, ← HR.out.2.1, List.getElem?_map, Option.map_eq_some_iff] at h7
                  exact h7)
                rw [han] at p5
                clear han
                go_wp2_with fail
                go_loopg [13] y.R.length (fun gg iv W => ∃ t : Nat, t ≤ y.R.length ∧ gg = y.R.length - t ∧ iv = .int .i64 t ∧ Hid (W = W1))
                case atStart => exact ⟨0, Nat.zero_le _, rfl, rfl, hid_mk rfl⟩
                case round =>
                  obtain ⟨t, ht, hgt, rfl, HW⟩ := hrel
                  rename World => Wx
                  rw [HW.out]
                  by_cases hlt2 : t < y.R.length
                  · have hlt2' : (t : Int) < y.R.length := by omega
                    obtain ⟨rb, roff, rcap, hre, hrc⟩ := (HR.out.1.kept HB.out.2.1).get t hlt2
                    injection hre with e1 e2 e3
                    subst e1
                    clear e2 e3
                    have hby := (HR.out.1.2 _ (List.getElem_mem hlt2)).kept HB.out.2.1
                    have htx := hby.text
                    obtain ⟨sa, sc, hsv⟩ := hby.len
                    rw [hsv] at hrc htx
                    have hlook := HB.out.1.look (x := y.g.fr + t) (by omega) (by omega)
                    cases hF : mapG (gs L) L.length (y.g.fr + t) with
                    | none =>
                      rw [hF] at hlook
                      simp only [Option.getD_none, Option.isSome_none] at hlook
                      clear hF hby hsv
                      go_wp2_with fail
                      go_roundg (y.R.length - (t + 1))
                      case measure => omega
                      case rel => exact ⟨t + 1, by omega, rfl, by go_num, hid_mk rfl⟩
                    | some d =>
                      obtain ⟨p, hp1, hp2⟩ := HMD.out t d hlt2 hF
                      rw [hF] at hlook
                      simp only [Option.getD_some, Option.isSome_some] at hlook
                      have hpd : y.R[t].1 = d := by rw [List.getElem?_eq_getElem hlt2] at hp1; injection hp1 with hp1; rw [hp1]; exact hp2
                      rw [hpd] at htx hrc
                      clear hF hby hsv hp1 hp2 hpd
                      go_wp2_with fail
                      go_roundg (y.R.length - (t + 1))
                      case measure => omega
                      case rel => exact ⟨t + 1, by omega, rfl, by go_num, hid_mk rfl⟩
                  · have hlt2' : ¬ (t : Int) < y.R.length := by omega
                    go_wp2_with fail
                    go_roundg (L.length - (k + 1))
                    case measure => omega
                    case rel => exact ⟨k + 1, by omega, rfl, by go_num, hid_mk ⟨HB.out.1, HB.out.2.1⟩⟩
            · have hk2' : (y.g.k != 2) = true := by simp [hk2]
              go_wp2_with fail
              go_roundg (L.length - (k + 1))
              case measure => omega
              case rel => exact ⟨k + 1, by omega, rfl, by go_num, hid_mk ⟨HB.out.1, HB.out.2.1⟩⟩
          · have hlt' : ¬ (k : Int) < L.length := by omega
            go_wp2_with (go_at_call 9; refine (knows_any _).mono ?_; rintro e w4 ⟨rfl, hg4⟩; replace hg4 := hid_mk (grown_trans H.out.2 hg4))
            go_ret
            exact ⟨rfl, hg4.out⟩
  · have hne : ((legalG (gs L) o).2 != 0) = true := by simp [hok]
    generalize (legalG (gs L) o).2 = en at *
    generalize ((legalG (gs L) o).1 : Int) = pl at *
    go_wp2_with (first | (go_at_call 25; refine (num_any _ _).mono ?_; rintro e w' ⟨rfl, hw⟩; rw [hw]; clear hw) | (go_at_call 9; refine (knows_any _).mono ?_; rintro e w3 ⟨rfl, hg3⟩; replace hg3 := hid_mk (grown_trans H2.out hg3)))
    go_ret
    exact ⟨rfl, hg3.out⟩
end Go.Proofs.Ythbfjpaimnhpgaa
