/- history: HistoryTime. -/
import Derived.Test.YthbfjpaimnhpgaaHKn
namespace Go.Proofs.Ythbfjpaimnhpgaa
open Go.RowKit Go.Maps
set_option linter.unusedVariables false
set_option linter.unusedSimpArgs false
set_option maxRecDepth 100000

theorem gs_at {L : List CE} {i : Nat} (h : i < L.length) : (gs L)[i]! = L[i].g := by
  rw [getElem!_pos (gs L) i (by simp [gs]; exact h)]; simp [gs]
set_option maxHeartbeats 8000000 in
theorem historyTime_walk (v u : Value) (L : List CE) (o : List Int) (w : World) (hL : CsR w v L) (hl : L.length ≤ 1099511627776) (hf : ∀ x ∈ L, FitC x) (ho : IntsR w u o) (hol : o.length ≤ 17592186044416) :
    Calls Try.prog 6 #[v, u] w fun e w' => e = .returned (.bool true) ∧ w.grownBy w' none := by
  obtain ⟨va, vc, hv⟩ := hL.len
  obtain ⟨ua, uc, rfl⟩ := ho.len
  have HL := hid_mk (And.intro hL (And.intro hf (And.intro ho hol)))
  have HV := hid_mk hv
  rw [hv]
  clear hL hf ho hv
  go_enter Try.func6, Try.ntmps6
  go_wp2_with fail
  have h1 := own_any HL.out.1 hl HL.out.2.1
  rw [HV.out] at h1
  refine h1.mono ?_
  clear h1
  rintro e w1 ⟨v1, L1, rfl, ho1, hi1, hg1, hw1⟩
  have H1 := hid_mk (show CsR w1 v1 L1 ∧ (∀ x ∈ L1, x.R.length ≤ 5864062014805) ∧ gs L1 = gs L ∧ w.grownBy w1 none from ⟨ho1.red (fun x hx => (hi1 x hx).1.inC), fun x hx => (hi1 x hx).2, hg1, hw1⟩)
  have hl1 : L1.length ≤ 1099511627776 := by have h9 := congrArg List.length hg1; simp [gs] at h9; omega
  obtain ⟨a1, c1, rfl⟩ := ho1.len
  clear ho1 hi1 hg1 hw1
  go_wp2_with fail
  refine (legal_any H1.out.1 hl1 H1.out.2.1 (HL.out.2.2.1.kept H1.out.2.2.2) HL.out.2.2.2).mono ?_
  rintro e w2 ⟨rfl, hg2⟩
  rw [H1.out.2.2.1]
  have H2 := hid_mk (grown_trans H1.out.2.2.2 hg2)
  clear hg2 H1 hl1
  unfold legV
  by_cases hok : (legalG (gs L) o).2 = 0
  · have HO := hid_mk (legal_ok.1 hok)
    rw [hok]
    clear hok
    generalize ((legalG (gs L) o).1 : Int) = pl at *
    go_wp2_with (go_at_call 25; refine (num_any _ _).mono ?_; rintro e w' ⟨rfl, hw⟩; rw [hw]; clear hw)
    go_loopg [7] L.length (fun gg iv W => ∃ i : Nat, i ≤ L.length ∧ gg = L.length - i ∧ iv = .int .i64 i ∧ Hid (w.grownBy W none))
    case atStart => exact ⟨0, Nat.zero_le _, rfl, rfl, H2⟩
    case round =>
      clear H2
      obtain ⟨i, hi, hgi, rfl, H⟩ := hrel
      rename World => W0
      by_cases hlti : i < L.length
      · have hlti' : (i : Int) < L.length := by omega
        go_wp2_with fail
        go_loopg [8] L.length (fun gg iv W => ∃ k : Nat, k ≤ L.length ∧ gg = L.length - k ∧ iv = .int .i64 k ∧ Hid (w.grownBy W none))
        case atStart => exact ⟨0, Nat.zero_le _, rfl, rfl, H⟩
        case round =>
          clear H
          obtain ⟨k, hk, hgk, rfl, H⟩ := hrel
          rename World => W
          by_cases hlt : k < L.length
          · have hlt' : (k : Int) < L.length := by omega
            obtain ⟨lb, off, cap, he, hc⟩ := HL.out.1.cells hlti
            obtain ⟨lb2, off2, cap2, he2, hc2⟩ := HL.out.1.cells hlt
            rw [HV.out] at he he2
            injection he with e1 e2 e3
            subst e1
            injection he2 with e4 e5 e6
            injection e4 with e4
            injection e4 with e4 e7 _
            subst e4 e7
            clear e2 e3 e5 e6
            obtain ⟨d0, d1, d2, d3, d4, d5, d6, d7, d8, d9, d10, d11⟩ := hc W H.out
            obtain ⟨⟨xa, xn, xc, hxd⟩, ⟨ra, rn, rc, hxr⟩⟩ := HL.out.1.sl _ (List.getElem_mem hlti)
            obtain ⟨⟨ya, yn, yc, hyd⟩, ⟨sa, sn, sc, hyr⟩⟩ := HL.out.1.sl _ (List.getElem_mem hlt)
            rw [hxd] at d10
            rw [hxr] at d11
            have hgl : (gs L).length = L.length := by simp [gs]
            have HT := hid_mk (show L[i].g.an = true → L[k].g.an = true → L[i].g.k = 1 → L[k].g.k = 2 → (L[k].g.b > L[i].g.e → L[k].g.nu > L[i].g.nu) ∧ (L[i].g.b > L[k].g.e → L[k].g.nu ≤ L[i].g.nu) from by
              have h9 := HO.out.time (i := i) (j := k) (by omega) (by omega)
              rw [gs_at hlti, gs_at hlt] at h9
              exact h9)
            have HC2 := hid_mk (show ∀ W', w.grownBy W' none → W'.cell? ⟨lb, off + k * 12, none⟩ = some (.int .i64 L[k].g.c) ∧ W'.cell? ⟨lb, off + k * 12 + 1, none⟩ = some (.int .i64 L[k].g.b) ∧ W'.cell? ⟨lb, off + k * 12 + 2, none⟩ = some (.int .i64 L[k].g.e) ∧ W'.cell? ⟨lb, off + k * 12 + 3, none⟩ = some (.int .i64 L[k].g.k) ∧ W'.cell? ⟨lb, off + k * 12 + 4, none⟩ = some (.int .i64 L[k].g.at') ∧ W'.cell? ⟨lb, off + k * 12 + 5, none⟩ = some (.bool L[k].g.an) ∧ W'.cell? ⟨lb, off + k * 12 + 6, none⟩ = some (.int .i64 L[k].g.fr) ∧ W'.cell? ⟨lb, off + k * 12 + 7, none⟩ = some (.int .i64 L[k].g.mo) ∧ W'.cell? ⟨lb, off + k * 12 + 8, none⟩ = some (.int .i64 L[k].g.nu) ∧ W'.cell? ⟨lb, off + k * 12 + 9, none⟩ = some (.int .i64 L[k].g.st) ∧ W'.cell? ⟨lb, off + k * 12 + 10, none⟩ = some (.slice ya yn yc) ∧ W'.cell? ⟨lb, off + k * 12 + 11, none⟩ = some (.slice sa sn sc) from fun W' hW' => by
              have h9 := hc2 W' hW'
              rw [hyd, hyr] at h9
              exact h9)
            clear hc hc2 hxd hxr hyd hyr
            generalize L[i] = x at *
            generalize L[k] = y at *
            go_upto_region 11 with fail
            clear d0 d1 d2 d3 d4 d5 d6 d7 d8 d9 d10 d11
            have HA := hid_mk (And.intro (grown_trans H.out (World.grownBy_alloc W (.cells #[.int .i64 x.g.c, .int .i64 x.g.b, .int .i64 x.g.e, .int .i64 x.g.k, .int .i64 x.g.at', .bool x.g.an, .int .i64 x.g.fr, .int .i64 x.g.mo, .int .i64 x.g.nu, .int .i64 x.g.st, .slice xa xn xc, .slice ra rn rc] 55) none)) (blk_alloc W #[.int .i64 x.g.c, .int .i64 x.g.b, .int .i64 x.g.e, .int .i64 x.g.k, .int .i64 x.g.at', .bool x.g.an, .int .i64 x.g.fr, .int .i64 x.g.mo, .int .i64 x.g.nu, .int .i64 x.g.st, .slice xa xn xc, .slice ra rn rc] 55))
            generalize (W.alloc (.cells #[.int .i64 x.g.c, .int .i64 x.g.b, .int .i64 x.g.e, .int .i64 x.g.k, .int .i64 x.g.at', .bool x.g.an, .int .i64 x.g.fr, .int .i64 x.g.mo, .int .i64 x.g.nu, .int .i64 x.g.st, .slice xa xn xc, .slice ra rn rc] 55)) = W1 at *
            generalize W.heap.size = q1 at *
            obtain ⟨f0, f1, f2, f3, f4, f5, f6, f7, f8, f9, f10, f11⟩ := HC2.out W1 HA.out.1
            go_upto_region 12 with fail
            clear f0 f1 f2 f3 f4 f5 f6 f7 f8 f9 f10 f11 HC2
            have HB := hid_mk (And.intro (grown_trans HA.out.1 (World.grownBy_alloc W1 (.cells #[.int .i64 y.g.c, .int .i64 y.g.b, .int .i64 y.g.e, .int .i64 y.g.k, .int .i64 y.g.at', .bool y.g.an, .int .i64 y.g.fr, .int .i64 y.g.mo, .int .i64 y.g.nu, .int .i64 y.g.st, .slice ya yn yc, .slice sa sn sc] 55) none)) (And.intro (HA.out.2.kept (World.grownBy_alloc W1 (.cells #[.int .i64 y.g.c, .int .i64 y.g.b, .int .i64 y.g.e, .int .i64 y.g.k, .int .i64 y.g.at', .bool y.g.an, .int .i64 y.g.fr, .int .i64 y.g.mo, .int .i64 y.g.nu, .int .i64 y.g.st, .slice ya yn yc, .slice sa sn sc] 55) none) (by simp)) (blk_alloc W1 #[.int .i64 y.g.c, .int .i64 y.g.b, .int .i64 y.g.e, .int .i64 y.g.k, .int .i64 y.g.at', .bool y.g.an, .int .i64 y.g.fr, .int .i64 y.g.mo, .int .i64 y.g.nu, .int .i64 y.g.st, .slice ya yn yc, .slice sa sn sc] 55)))
            generalize (W1.alloc (.cells #[.int .i64 y.g.c, .int .i64 y.g.b, .int .i64 y.g.e, .int .i64 y.g.k, .int .i64 y.g.at', .bool y.g.an, .int .i64 y.g.fr, .int .i64 y.g.mo, .int .i64 y.g.nu, .int .i64 y.g.st, .slice ya yn yc, .slice sa sn sc] 55)) = W2 at *
            generalize W1.heap.size = q2 at *
            clear HA H
            obtain ⟨p0, p1, p2, p3, p4, p5, p6, p7, p8, p9, p10, p11, pf⟩ := blk12 HB.out.2.1
            obtain ⟨r0, r1, r2, r3, r4, r5, r6, r7, r8, r9, r10, r11, rf⟩ := blk12 HB.out.2.2
            clear p0 p4 p6 p7 p9 p10 p11 pf r0 r4 r6 r7 r9 r10 r11 rf
            by_cases k1 : x.g.k = 1
            · by_cases k2 : y.g.k = 2
              · cases b1 : x.g.an
                · rw [b1] at p5
                  go_wp2_with fail
                  go_roundg (L.length - (k + 1))
                  case measure => omega
                  case rel => exact ⟨k + 1, by omega, rfl, by go_num, hid_mk HB.out.1⟩
                · cases b2 : y.g.an
                  · rw [b1] at p5
                    rw [b2] at r5
                    go_wp2_with fail
                    go_roundg (L.length - (k + 1))
                    case measure => omega
                    case rel => exact ⟨k + 1, by omega, rfl, by go_num, hid_mk HB.out.1⟩
                  · have hT := HT.out b1 b2 k1 k2
                    rw [b1] at p5
                    rw [b2] at r5
                    by_cases t1 : x.g.e < y.g.b
                    · have n1 : ¬ (y.g.nu ≤ x.g.nu) := by have := hT.1 t1; omega
                      have t2 : ¬ (y.g.e < x.g.b) := fun e => n1 (hT.2 e)
                      clear hT
                      go_wp2_with fail
                      go_roundg (L.length - (k + 1))
                      case measure => omega
                      case rel => exact ⟨k + 1, by omega, rfl, by go_num, hid_mk HB.out.1⟩
                    · by_cases t2 : y.g.e < x.g.b
                      · have n2 : ¬ (x.g.nu < y.g.nu) := by have := hT.2 t2; omega
                        clear hT
                        go_wp2_with fail
                        go_roundg (L.length - (k + 1))
                        case measure => omega
                        case rel => exact ⟨k + 1, by omega, rfl, by go_num, hid_mk HB.out.1⟩
                      · clear hT
                        go_wp2_with fail
                        go_roundg (L.length - (k + 1))
                        case measure => omega
                        case rel => exact ⟨k + 1, by omega, rfl, by go_num, hid_mk HB.out.1⟩
              · have k2' : (y.g.k != 2) = true := by simp [k2]
                go_wp2_with fail
                go_roundg (L.length - (k + 1))
                case measure => omega
                case rel => exact ⟨k + 1, by omega, rfl, by go_num, hid_mk HB.out.1⟩
            · have k1' : (x.g.k != 1) = true := by simp [k1]
              go_wp2_with fail
              go_roundg (L.length - (k + 1))
              case measure => omega
              case rel => exact ⟨k + 1, by omega, rfl, by go_num, hid_mk HB.out.1⟩
          · have hlt' : ¬ (k : Int) < L.length := by omega
            go_wp2_with fail
            go_roundg (L.length - (i + 1))
            case measure => omega
            case rel => exact ⟨i + 1, by omega, rfl, by go_num, H⟩
      · have hlti' : ¬ (i : Int) < L.length := by omega
        go_wp2_with (go_at_call 9; refine (knows_any _).mono ?_; rintro e w3 ⟨rfl, hg3⟩; replace hg3 := hid_mk (grown_trans H.out hg3))
        go_ret
        exact ⟨rfl, hg3.out⟩
  · have hne : ((legalG (gs L) o).2 != 0) = true := by simp [hok]
    generalize (legalG (gs L) o).2 = en at *
    generalize ((legalG (gs L) o).1 : Int) = pl at *
    go_wp2_with (first | (go_at_call 25; refine (num_any _ _).mono ?_; rintro e w' ⟨rfl, hw⟩; rw [hw]; clear hw) | (go_at_call 9; refine (knows_any _).mono ?_; rintro e w3 ⟨rfl, hg3⟩; replace hg3 := hid_mk (grown_trans H2.out hg3)))
    go_ret
    exact ⟨rfl, hg3.out⟩
end Go.Proofs.Ythbfjpaimnhpgaa
