/- NetWalls' walk. -/
import Derived.Test.YthidpnjndhelbaaNbV0
namespace Go.Proofs.Ythidpnjndhelbaa
open Go.RowKit Go.Maps
set_option linter.unusedVariables false
set_option linter.unusedSimpArgs false
set_option maxRecDepth 100000
set_option maxHeartbeats 8000000 in
theorem netWalls_walk (la : Option Addr) (lc : Nat) (L : List LV) (ia : Option Addr) (ic : Nat) (I : List Int) (w : World) (hL : LtsR w (.slice la L.length lc) L) (hI : IntsR w (.slice ia I.length ic) I) (hl1 : L.length ≤ 140737488355328) (hl2 : I.length ≤ 17592186044416) : Calls Try.prog 7 #[.slice la L.length lc, .slice ia I.length ic] w fun e w' => e = .returned (.bool true) ∧ w.grownBy w' none := by
  have HL := hid_mk hL
  have HI := hid_mk hI
  have HB2 := hid_mk hl2
  clear hL hI hl2
  go_enter Try.func7, Try.ntmps7
  go_wp2_with fail
  refine (m_new (grown_refl w none) 10000 (by omega) (by omega)).mono ?_
  rintro e w1 ⟨b, rfl, h1, _, _⟩
  have H1 := hid_mk h1
  clear h1
  go_wp2_with (go_at_call 10; refine (num_any _ _).mono ?_; rintro e w' ⟨rfl, hw⟩; rw [hw]; clear hw)
  refine (wall_nil H1.out.1).mono ?_
  rintro e w2 ⟨rfl, v2, h2⟩
  have H2 := hid_mk (H1.out.npv h2)
  clear h2 H1
  go_wp2_with (go_at_call 10; refine (num_any _ _).mono ?_; rintro e w' ⟨rfl, hw⟩; rw [hw]; clear hw)
  refine (knows_any _).mono ?_
  rintro e w3 ⟨rfl, hg⟩
  have H4 := hid_mk (H2.out.kept hg)
  clear hg H2
  go_wp2_with fail
  go_loopg [7, 8] L.length (fun gg sv iv W => ∃ (k : Nat) (v : Value) (g : NetG), gg = L.length - k ∧ k ≤ L.length ∧ sv = .int .i64 g.L.length ∧ iv = .int .i64 k ∧ Hid (Mine w W b v g))
  case atStart => exact ⟨0, _, _, rfl, by omega, rfl, rfl, H4⟩
  case round =>
    obtain ⟨k, v, g, hgk, hk, rfl, rfl, HO⟩ := hrel
    rename World => W5
    clear H4
    have hfew : (g.L.length : Int) ≤ 10000 := by have h1 := HO.out.1.ok.few; have h2 := HO.out.1.ok.hi; omega
    by_cases hlt : k < L.length ∧ k < 100
    · have hkl := hlt.1
      have hkl' : (k : Int) < L.length := by omega
      have hkh' : (k : Int) < 100 := by omega
      clear hlt
      obtain ⟨gl, offl, capl, el, c0, c1, c2⟩ := (HL.out.kept HO.out.2).2.2 k hkl
      injection el with el el2 el3
      clear el2 el3
      subst el
      have hby := HL.out.2.1 _ (List.getElem_mem hkl)
      generalize L[k] = x0 at *
      obtain ⟨⟨fr, tw, bs⟩, sv⟩ := x0
      simp only at *
      obtain ⟨sa, sc, hsv⟩ := hby.1.len
      subst hsv
      have HBY := hid_mk hby
      clear hby
      go_wp2_with fail
      refine (own_any (HBY.out.1.kept HO.out.2) HBY.out.2 fr tw).mono ?_
      rintro e w1 ⟨v', rfl, ho, hg⟩
      have HO1 := hid_mk (And.intro (HO.out.kept hg) ho.byt)
      clear ho hg c0 c1 c2 HO
      go_wp2_with fail
      refine (send_any HO1.out.1.1 fr tw v' bs HO1.out.2).mono ?_
      rintro e w2 ⟨z, rfl, hz⟩
      rcases hz with ⟨rfl, hse, u, ⟨v6, h7⟩, _⟩ | ⟨hz0, hse, hg2⟩
      · have HS := hid_mk (HO1.out.1.npv h7)
        clear h7 hse HO1
        go_wp2_with (go_at_call 10; refine (num_any _ _).mono ?_; rintro e w' ⟨rfl, hw⟩; rw [hw]; clear hw)
        go_roundg (L.length - (k + 1))
        case measure => omega
        case rel => exact ⟨k + 1, _, _, rfl, by omega, by unfold addG; simp only [List.length_append, List.length_cons, List.length_nil]; go_num, by go_num, HS⟩
      · have HS := hid_mk (HO1.out.1.kept hg2)
        clear hg2 hse HO1
        go_wp2_with (go_at_call 10; refine (num_any _ _).mono ?_; rintro e w' ⟨rfl, hw⟩; rw [hw]; clear hw)
        go_roundg (L.length - (k + 1))
        case measure => omega
        case rel => exact ⟨k + 1, _, _, rfl, by omega, rfl, by go_num, HS⟩
    · have HQ : Hid (Mine w W5 b v g) := HO
      clear HO
      by_cases hkl : k < L.length
      case pos =>
        have hkl' : (k : Int) < L.length := by omega
        have hkh' : ¬ (k : Int) < 100 := by omega
        go_upto_region 10 with fail
        clear hkl' hkh' hkl hlt
        go_wp2_with fail
        refine (wall_any HQ.out.1 (.slice ia I.length ic) I (HI.out.kept HQ.out.2) HB2.out).mono ?_
        rintro e w6 ⟨rfl, v6, h6⟩
        have H6 := hid_mk (HQ.out.npv h6)
        clear h6 HQ
        unfold wallE
        cases hbad : badI I
        case true =>
          have H7 : Hid (Mine w w6 b v6 g) := by have := H6.out; unfold wallG at this; rw [hbad] at this; exact hid_mk this
          have HBD := hid_mk hbad
          clear H6 hbad
          go_wp2_with (first | (go_at_call 10; refine (num_any _ _).mono ?_; rintro e w' ⟨rfl, hw⟩; rw [hw]; clear hw) | (go_at_call 15; refine (len_any H7.out.1).mono ?_; rintro e w' ⟨rfl, hw⟩; rw [hw]; clear hw))
          go_ret
          exact ⟨rfl, H7.out.2⟩
        case false =>
          have H7 : Hid (Mine w w6 b v6 ⟨g.most, g.L, arF I⟩) := by have := H6.out; unfold wallG at this; rw [hbad] at this; exact hid_mk this
          have HBD := hid_mk (badI_no hbad)
          clear H6 hbad
          have hmm := run_makeMap61
          go_upto_region 13 with (go_at_call 10; refine (num_any _ _).mono ?_; rintro e w' ⟨rfl, hw⟩; rw [hw]; clear hw)
          have HM := hid_mk (And.intro (H7.out.kept (World.grownBy_alloc w6 (.map #[] 0) none)) (And.intro (map_new w6) H7.out.2.size))
          clear H7 hmm
          generalize w6.alloc (.map #[] 0) = w7 at *
          generalize w6.heap.size = bm at *
          generalize hn : g.L.length = n at *
          go_wp2_with fail
          go_loopg [10] I.length (fun gg iv W => ∃ k : Nat, gg = I.length - k ∧ k ≤ I.length ∧ iv = .int .i64 k ∧ Hid (Mine w W b v6 ⟨g.most, g.L, arF I⟩ ∧ MapB W bm k (memB (I.take k)) ∧ w.heap.size ≤ bm))
          case atStart => exact ⟨0, rfl, by omega, rfl, HM⟩
          case round =>
            obtain ⟨k1, hgk, hk1, rfl, HM1⟩ := hrel
            rename World => W7
            clear HM
            by_cases hlt : k1 < I.length
            · have hlt' : (k1 : Int) < I.length := by omega
              obtain ⟨gi, offi, capi, ei, c0⟩ := (HI.out.kept HM1.out.1.2).get k1 hlt
              injection ei with ei ei2 ei3
              clear ei2 ei3
              subst ei
              obtain ⟨D, hD⟩ := HM1.out.2.1
              have hx := HBD.out _ (List.getElem_mem hlt)
              have HX := hid_mk hx
              clear hx
              have HSN := hid_mk (memB_snoc I k1 hlt)
              have HLT := hid_mk hlt
              generalize I[k1] = x at *
              have HDD := hid_mk hD
              clear hD
              go_wp2_with (at_mapUpdate; refine wpList_mapUpdate_own _ rfl _ _ _ 61 rfl 3 4 key3 Try.underlying61 _ bm k1 D rfl HDD.out.own (by have := HB2.out; unfold maxLen; omega) _ _ (.int .i64 x) rfl rfl (keyOf_int_mk Try.underlying3 (key_wf HX.out.1 HX.out.2)) _ [] (plainElem_bool Try.underlying4 true) ?_; intro w9 hown9 hgrow9)
              go_roundg (I.length - (k1 + 1))
              case measure => have := HLT.out; omega
              case rel => exact ⟨k1 + 1, rfl, by have := HLT.out; omega, by have h1 := HLT.out; have h2 := HB2.out; unfold wrap64; refine congrArg _ ?_; omega, hid_mk ⟨HM1.out.1.map HM1.out.2.1 HM1.out.2.2 hgrow9, by rw [← HSN.out]; exact HDD.out.put hown9, HM1.out.2.2⟩⟩
            · have hlt' : ¬ (k1 : Int) < I.length := by omega
              have HM2 : Hid (Mine w W7 b v6 ⟨g.most, g.L, arF I⟩ ∧ MapB W7 bm I.length (memB I) ∧ w.heap.size ≤ bm) := by
                have he : k1 = I.length := by omega
                have h := HM1.out
                rw [he, List.take_of_length_le (Nat.le_refl _)] at h
                exact hid_mk h
              clear HM1
              go_upto_region 17 with fail
              clear hlt' hlt hk1 hgk
              have hgg : ∃ g1 : NetG, g1 = ⟨g.most, g.L, arF I⟩ ∧ g1.L.length = n ∧ g1.W = arF I := ⟨_, rfl, hn, rfl⟩
              obtain ⟨g1, hg1, hn1, hw1⟩ := hgg
              rw [← hg1] at HM2
              clear hg1 hn
              go_wp2_with fail
              refine (next_any HM2.out.1.1 0).mono ?_
              rintro e w8 ⟨rfl, hg⟩
              have HM3 := hid_mk (show Mine w w8 b v6 g1 ∧ MapB w8 bm I.length (memB I) ∧ g1.W = arF I ∧ NextOk g1 (nextI g1 0) from ⟨HM2.out.1.kept hg, HM2.out.2.1.kept hg (by simp), hw1, next_start g1⟩)
              clear hg HM2 hw1
              go_wp2_with fail
              go_loopg [11, 12] g1.L.length (fun gg tv kv W => ∃ (t : Nat) (v : Value) (g2 : NetG) (z : Int), gg = g2.L.length ∧ tv = .int .i64 t ∧ kv = .int .i64 z ∧ t + g2.L.length = n ∧ Hid (Mine w W b v g2 ∧ MapB W bm I.length (memB I) ∧ g2.W = arF I ∧ NextOk g2 z))
              case atStart => exact ⟨0, _, _, _, rfl, rfl, rfl, by omega, HM3⟩
              case round =>
                obtain ⟨t, v2, g2, z, hgk, rfl, rfl, hsum, HT⟩ := hrel
                rename World => W8
                clear HM3
                rcases HT.out.2.2.2 with ⟨rfl, hnone⟩ | ⟨k2, rfl, hk2, hpk, hfirst⟩
                case inr =>
                  have hk20 : (0 : Int) ≤ k2 := by omega
                  have hp2 := pasK_at hk2 hpk
                  have hin2 := within HT.out.1.1.ok hk2
                  have HF2 := hid_mk (And.intro hp2 (And.intro hin2 hfirst))
                  clear hp2 hin2 hfirst hpk
                  go_wp2_with fail
                  refine (take_any HT.out.1.1 k2 hk2).mono ?_
                  rintro e w9 h9
                  obtain ⟨va', vc', hee, v9, h10⟩ := take_got HF2.out.1 h9
                  clear h9
                  subst hee
                  have HT2 := hid_mk (show Mine w w9 b v9 (remG g2 k2) ∧ MapB w9 bm I.length (memB I) from ⟨HT.out.1.npv h10, HT.out.2.1.np HT.out.1.1 h10⟩)
                  clear h10
                  have hmem : memB I g2.L[k2].1.fr = memB I g2.L[k2].1.tw := by
                    have h := HF2.out.1
                    rw [HT.out.2.2.1, pas_mem I HF2.out.2.1.1 HF2.out.2.1.2] at h
                    exact eq_of_beq h
                  have HMF := hid_mk hmem
                  clear hmem
                  have HNX := hid_mk (And.intro HT.out.2.2.1 (And.intro HF2.out.2.2 (len_rem hk2)))
                  have HR2 := hid_mk HF2.out.2.1
                  have hlr := len_rem hk2
                  clear HF2 HT
                  generalize g2.L[k2] = x2 at *
                  obtain ⟨⟨fr, tw, bs⟩, sv⟩ := x2
                  simp only at *
                  have HB := hid_mk (blk_alloc w9 #[.int .i64 fr, .int .i64 tw, .slice va' bs.length vc'] 39)
                  have HT3 := hid_mk (show Mine w (w9.alloc (.cells #[.int .i64 fr, .int .i64 tw, .slice va' bs.length vc'] 39)) b v9 (remG g2 k2) ∧ MapB (w9.alloc (.cells #[.int .i64 fr, .int .i64 tw, .slice va' bs.length vc'] 39)) bm I.length (memB I) from ⟨HT2.out.1.kept (World.grownBy_alloc w9 _ none), HT2.out.2.kept (World.grownBy_alloc w9 _ none) (by simp)⟩)
                  clear HT2
                  go_upto_region 22 with fail
                  generalize hw10 : w9.alloc (.cells #[.int .i64 fr, .int .i64 tw, .slice va' bs.length vc'] 39) = w10 at *
                  clear hw10
                  generalize w9.heap.size = q9 at *
                  obtain ⟨d0, d1, d2, _⟩ := blk3 HB.out
                  have f0 := HT3.out.2.look HR2.out.1.1 HR2.out.1.2
                  have f1 := HT3.out.2.look HR2.out.2.1 HR2.out.2.2
                  rw [HMF.out] at f0
                  clear HMF
                  cases hmt : memB I tw
                  all_goals
                    rw [hmt] at f0 f1
                    clear hmt
                    have HT4 : Hid (Mine w w10 b v9 (remG g2 k2) ∧ MapB w10 bm I.length (memB I)) := HT3
                    clear HT3 HB
                    go_upto_region 24 with (go_at_call 10; refine (num_any _ _).mono ?_; rintro e w' ⟨rfl, hw⟩; rw [hw]; clear hw)
                    clear f0 f1 d0 d1 d2
                    go_wp2_with fail
                    refine (next_any HT4.out.1.1 k2).mono ?_
                    rintro e w12 ⟨rfl, hg⟩
                    have HT5 := hid_mk (show Mine w w12 b v9 (remG g2 k2) ∧ MapB w12 bm I.length (memB I) ∧ (remG g2 k2).W = arF I ∧ NextOk (remG g2 k2) (nextI (remG g2 k2) k2) from ⟨HT4.out.1.kept hg, HT4.out.2.kept hg (by simp), HNX.out.1, next_after HNX.out.2.1⟩)
                    clear HT4 hg
                    go_wp2_with fail
                    go_roundg (remG g2 k2).L.length
                    case measure => omega
                    case rel => exact ⟨t + 1, _, _, _, rfl, by go_num, rfl, by omega, HT5⟩
                case inl =>
                  have hm1 : ¬ (0 : Int) ≤ -1 := by omega
                  have HN5 := hid_mk hnone
                  have HT6 := hid_mk (And.intro HT.out.1 (And.intro HT.out.2.1 HT.out.2.2.1))
                  clear HT hnone
                  go_upto_region 25 with fail
                  clear hm1 hgk
                  have hfew2 : (g2.L.length : Int) ≤ 10000 := by have h1 := HT6.out.1.1.ok.few; have h2 := HT6.out.1.1.ok.hi; omega
                  go_wp2_with (go_at_call 15; refine (len_any HT6.out.1.1).mono ?_; rintro e w' ⟨rfl, hw⟩; rw [hw]; clear hw)
                  go_loopg [16] g2.L.length (fun gg iv W => ∃ k : Nat, gg = g2.L.length - k ∧ k ≤ g2.L.length ∧ iv = .int .i64 k ∧ Hid (Mine w W b v2 g2 ∧ MapB W bm I.length (memB I) ∧ g2.W = arF I))
                  case atStart => exact ⟨0, rfl, by omega, rfl, HT6⟩
                  case round =>
                    obtain ⟨k3, hgk, hk3, rfl, HK⟩ := hrel
                    rename World => W9
                    clear HT6
                    by_cases hlt : k3 < g2.L.length
                    · have hlt' : (k3 : Int) < g2.L.length := by omega
                      have HP := hid_mk (And.intro (pasK_not hlt (HN5.out k3)) (within HK.out.1.1.ok hlt))
                      go_wp2_with fail
                      refine (look_ok HK.out.1.1 k3 hlt).mono ?_
                      rintro e w9 ⟨v', rfl, ho, hg⟩
                      have HV := hid_mk ho.len
                      have HK1 := hid_mk (show Mine w w9 b v2 g2 ∧ MapB w9 bm I.length (memB I) from ⟨HK.out.1.kept hg, HK.out.2.1.kept hg (by simp)⟩)
                      clear ho hg
                      obtain ⟨va', vc', rfl⟩ := HV.out
                      clear HV
                      have HB := hid_mk (blk_alloc w9 #[.int .i64 g2.L[k3].1.fr, .int .i64 g2.L[k3].1.tw, .slice va' g2.L[k3].1.b.length vc'] 39)
                      have HK2 := hid_mk (show Mine w (w9.alloc (.cells #[.int .i64 g2.L[k3].1.fr, .int .i64 g2.L[k3].1.tw, .slice va' g2.L[k3].1.b.length vc'] 39)) b v2 g2 ∧ MapB (w9.alloc (.cells #[.int .i64 g2.L[k3].1.fr, .int .i64 g2.L[k3].1.tw, .slice va' g2.L[k3].1.b.length vc'] 39)) bm I.length (memB I) from ⟨HK1.out.1.kept (World.grownBy_alloc w9 _ none), HK1.out.2.kept (World.grownBy_alloc w9 _ none) (by simp)⟩)
                      clear HK1
                      go_upto_region 30 with fail
                      generalize hw10 : w9.alloc (.cells #[.int .i64 g2.L[k3].1.fr, .int .i64 g2.L[k3].1.tw, .slice va' g2.L[k3].1.b.length vc'] 39) = w10 at *
                      clear hw10
                      generalize w9.heap.size = q9 at *
                      go_wp2_with fail
                      refine (take_any HK2.out.1.1 k3 hlt).mono ?_
                      rintro e w11 h11
                      obtain ⟨hee, hg⟩ := take_held HP.out.1 h11
                      clear h11
                      subst hee
                      have HK3 := hid_mk (show Mine w w11 b v2 g2 ∧ MapB w11 bm I.length (memB I) from ⟨HK2.out.1.kept hg, HK2.out.2.kept hg (by simp)⟩)
                      have HB3 := hid_mk (HB.out.kept hg (by simp))
                      clear HB HK2 hg
                      have HK4 := hid_mk (show Mine w (w11.alloc (.cells #[.int .i64 0, .int .i64 0, .slice none 0 0] 39)) b v2 g2 ∧ MapB (w11.alloc (.cells #[.int .i64 0, .int .i64 0, .slice none 0 0] 39)) bm I.length (memB I) from ⟨HK3.out.1.kept (World.grownBy_alloc w11 _ none), HK3.out.2.kept (World.grownBy_alloc w11 _ none) (by simp)⟩)
                      have HB4 := hid_mk (HB3.out.kept (World.grownBy_alloc w11 (.cells #[.int .i64 0, .int .i64 0, .slice none 0 0] 39) none) (by simp))
                      clear HB3 HK3
                      go_upto_region 31 with fail
                      generalize hw12 : w11.alloc (.cells #[.int .i64 0, .int .i64 0, .slice none 0 0] 39) = w12 at *
                      clear hw12
                      have hmem : memB I g2.L[k3].1.tw = !memB I g2.L[k3].1.fr := by
                        have h := HP.out.1
                        rw [HK.out.2.2, pas_mem I HP.out.2.1 HP.out.2.2] at h
                        cases h1 : memB I g2.L[k3].1.fr <;> cases h2 : memB I g2.L[k3].1.tw <;> rw [h1, h2] at h <;> first | rfl | cases h
                      have hop : openB g2 g2.L[k3].1.fr g2.L[k3].1.tw g2.L[k3].1.b.length = false := by unfold openB; rw [HP.out.1, Bool.and_false]
                      have HOP := hid_mk hop
                      clear hop
                      have HR2 := hid_mk HP.out.2
                      have HW2 := hid_mk HK.out.2.2
                      clear HP HK
                      generalize g2.L[k3] = x2 at *
                      obtain ⟨⟨fr, tw, bs⟩, sv⟩ := x2
                      simp only at *
                      obtain ⟨d0, d1, d2, _⟩ := blk3 HB4.out
                      have f0 := HK4.out.2.look HR2.out.1.1 HR2.out.1.2
                      have f1 := HK4.out.2.look HR2.out.2.1 HR2.out.2.2
                      rw [hmem] at f1
                      clear hmem
                      cases hmt : memB I fr
                      all_goals
                        rw [hmt] at f0 f1
                        clear hmt
                        simp only [Bool.not_true, Bool.not_false] at f1
                        go_wp2_with (go_at_call 10; refine (num_any _ _).mono ?_; rintro e w' ⟨rfl, hw⟩; rw [hw]; clear hw)
                        refine (open_any HK4.out.1.1 fr tw va' bs.length vc').mono ?_
                        rintro e w13 ⟨rfl, hg⟩
                        rw [HOP.out]
                        have HT4 := hid_mk (show Mine w w13 b v2 g2 ∧ MapB w13 bm I.length (memB I) ∧ g2.W = arF I from ⟨HK4.out.1.kept hg, HK4.out.2.kept hg (by simp), HW2.out⟩)
                        clear HK4 HB4 hg f0 f1 d0 d1 d2
                        go_wp2_with fail
                        go_roundg (g2.L.length - (k3 + 1))
                        case measure => omega
                        case rel => exact ⟨k3 + 1, rfl, by omega, by go_num, HT4⟩
                    · have hlt' : ¬ (k3 : Int) < g2.L.length := by omega
                      have HT7 := hid_mk HK.out.1
                      clear HK
                      go_upto_region 33 with fail
                      clear hlt' hlt hgk hk3
                      have hs2 : (g2.L.length : Int) + (t : Int) = (n : Int) := by omega
                      have hsw : (g2.L.length : Int) + (t : Int) ≤ 10000 := by omega
                      go_wp2_with (go_at_call 10; refine (num_any _ _).mono ?_; rintro e w' ⟨rfl, hw⟩; rw [hw]; clear hw)
                      refine (wall_nil HT7.out.1).mono ?_
                      rintro e w10 ⟨rfl, v10, h10⟩
                      have HT9 := hid_mk (HT7.out.npv h10)
                      clear h10 HT7 HN5
                      have HG0 := hid_mk (show (wallG g2 []).L.length = g2.L.length ∧ (wallG g2 []).W = arF [] from ⟨rfl, rfl⟩)
                      generalize hg3 : wallG g2 [] = g3 at *
                      clear hg3
                      go_wp2_with (go_at_call 10; refine (num_any _ _).mono ?_; rintro e w' ⟨rfl, hw⟩; rw [hw]; clear hw)
                      go_loopg [21] g2.L.length (fun gg iv W => ∃ (k : Nat) (v : Value) (g4 : NetG), gg = g2.L.length - k ∧ g4.L.length + k = g2.L.length ∧ iv = .int .i64 k ∧ Hid (Mine w W b v g4 ∧ g4.W = arF []))
                      case atStart => exact ⟨0, _, _, rfl, by have := HG0.out.1; omega, rfl, hid_mk ⟨HT9.out, HG0.out.2⟩⟩
                      case round =>
                        obtain ⟨k5, v5, g4, hgk, hk5, rfl, HE⟩ := hrel
                        rename World => W10
                        clear HT9 HG0
                        by_cases hlt : k5 < g2.L.length
                        · have hlt' : (k5 : Int) < g2.L.length := by omega
                          have h04 : 0 < g4.L.length := by omega
                          go_wp2_with fail
                          refine (take_any HE.out.1.1 0 h04).mono ?_
                          rintro e w9 h9
                          obtain ⟨va', vc', hee, v9, h10⟩ := take_got (by rw [HE.out.2]; exact pas_free _ _) h9
                          clear h9
                          subst hee
                          have HE2 := hid_mk (show Mine w (w9.alloc (.cells #[.int .i64 g4.L[0].1.fr, .int .i64 g4.L[0].1.tw, .slice va' g4.L[0].1.b.length vc'] 39)) b v9 (remG g4 0) ∧ (remG g4 0).W = arF [] from ⟨(HE.out.1.npv h10).kept (World.grownBy_alloc w9 _ none), HE.out.2⟩)
                          have hlr := len_rem h04
                          clear h10 HE
                          go_wp2_with (go_at_call 10; refine (num_any _ _).mono ?_; rintro e w' ⟨rfl, hw⟩; rw [hw]; clear hw)
                          go_roundg (g2.L.length - (k5 + 1))
                          case measure => omega
                          case rel => exact ⟨k5 + 1, _, _, rfl, by omega, by go_num, HE2⟩
                        · have hlt' : ¬ (k5 : Int) < g2.L.length := by omega
                          have h0 : g4.L.length = 0 := by omega
                          go_wp2_with (go_at_call 15; refine (len_any HE.out.1.1).mono ?_; rintro e w' ⟨rfl, hw⟩; rw [hw]; clear hw)
                          go_ret
                          exact ⟨rfl, HE.out.1.2⟩
      case neg =>
        have hkl' : ¬ (k : Int) < L.length := by omega
        go_upto_region 10 with fail
        clear hkl' hkl hlt
        go_wp2_with fail
        refine (wall_any HQ.out.1 (.slice ia I.length ic) I (HI.out.kept HQ.out.2) HB2.out).mono ?_
        rintro e w6 ⟨rfl, v6, h6⟩
        have H6 := hid_mk (HQ.out.npv h6)
        clear h6 HQ
        unfold wallE
        cases hbad : badI I
        case true =>
          have H7 : Hid (Mine w w6 b v6 g) := by have := H6.out; unfold wallG at this; rw [hbad] at this; exact hid_mk this
          have HBD := hid_mk hbad
          clear H6 hbad
          go_wp2_with (first | (go_at_call 10; refine (num_any _ _).mono ?_; rintro e w' ⟨rfl, hw⟩; rw [hw]; clear hw) | (go_at_call 15; refine (len_any H7.out.1).mono ?_; rintro e w' ⟨rfl, hw⟩; rw [hw]; clear hw))
          go_ret
          exact ⟨rfl, H7.out.2⟩
        case false =>
          have H7 : Hid (Mine w w6 b v6 ⟨g.most, g.L, arF I⟩) := by have := H6.out; unfold wallG at this; rw [hbad] at this; exact hid_mk this
          have HBD := hid_mk (badI_no hbad)
          clear H6 hbad
          have hmm := run_makeMap61
          go_upto_region 13 with (go_at_call 10; refine (num_any _ _).mono ?_; rintro e w' ⟨rfl, hw⟩; rw [hw]; clear hw)
          have HM := hid_mk (And.intro (H7.out.kept (World.grownBy_alloc w6 (.map #[] 0) none)) (And.intro (map_new w6) H7.out.2.size))
          clear H7 hmm
          generalize w6.alloc (.map #[] 0) = w7 at *
          generalize w6.heap.size = bm at *
          generalize hn : g.L.length = n at *
          go_wp2_with fail
          go_loopg [10] I.length (fun gg iv W => ∃ k : Nat, gg = I.length - k ∧ k ≤ I.length ∧ iv = .int .i64 k ∧ Hid (Mine w W b v6 ⟨g.most, g.L, arF I⟩ ∧ MapB W bm k (memB (I.take k)) ∧ w.heap.size ≤ bm))
          case atStart => exact ⟨0, rfl, by omega, rfl, HM⟩
          case round =>
            obtain ⟨k1, hgk, hk1, rfl, HM1⟩ := hrel
            rename World => W7
            clear HM
            by_cases hlt : k1 < I.length
            · have hlt' : (k1 : Int) < I.length := by omega
              obtain ⟨gi, offi, capi, ei, c0⟩ := (HI.out.kept HM1.out.1.2).get k1 hlt
              injection ei with ei ei2 ei3
              clear ei2 ei3
              subst ei
              obtain ⟨D, hD⟩ := HM1.out.2.1
              have hx := HBD.out _ (List.getElem_mem hlt)
              have HX := hid_mk hx
              clear hx
              have HSN := hid_mk (memB_snoc I k1 hlt)
              have HLT := hid_mk hlt
              generalize I[k1] = x at *
              have HDD := hid_mk hD
              clear hD
              go_wp2_with (at_mapUpdate; refine wpList_mapUpdate_own _ rfl _ _ _ 61 rfl 3 4 key3 Try.underlying61 _ bm k1 D rfl HDD.out.own (by have := HB2.out; unfold maxLen; omega) _ _ (.int .i64 x) rfl rfl (keyOf_int_mk Try.underlying3 (key_wf HX.out.1 HX.out.2)) _ [] (plainElem_bool Try.underlying4 true) ?_; intro w9 hown9 hgrow9)
              go_roundg (I.length - (k1 + 1))
              case measure => have := HLT.out; omega
              case rel => exact ⟨k1 + 1, rfl, by have := HLT.out; omega, by have h1 := HLT.out; have h2 := HB2.out; unfold wrap64; refine congrArg _ ?_; omega, hid_mk ⟨HM1.out.1.map HM1.out.2.1 HM1.out.2.2 hgrow9, by rw [← HSN.out]; exact HDD.out.put hown9, HM1.out.2.2⟩⟩
            · have hlt' : ¬ (k1 : Int) < I.length := by omega
              have HM2 : Hid (Mine w W7 b v6 ⟨g.most, g.L, arF I⟩ ∧ MapB W7 bm I.length (memB I) ∧ w.heap.size ≤ bm) := by
                have he : k1 = I.length := by omega
                have h := HM1.out
                rw [he, List.take_of_length_le (Nat.le_refl _)] at h
                exact hid_mk h
              clear HM1
              go_upto_region 17 with fail
              clear hlt' hlt hk1 hgk
              have hgg : ∃ g1 : NetG, g1 = ⟨g.most, g.L, arF I⟩ ∧ g1.L.length = n ∧ g1.W = arF I := ⟨_, rfl, hn, rfl⟩
              obtain ⟨g1, hg1, hn1, hw1⟩ := hgg
              rw [← hg1] at HM2
              clear hg1 hn
              go_wp2_with fail
              refine (next_any HM2.out.1.1 0).mono ?_
              rintro e w8 ⟨rfl, hg⟩
              have HM3 := hid_mk (show Mine w w8 b v6 g1 ∧ MapB w8 bm I.length (memB I) ∧ g1.W = arF I ∧ NextOk g1 (nextI g1 0) from ⟨HM2.out.1.kept hg, HM2.out.2.1.kept hg (by simp), hw1, next_start g1⟩)
              clear hg HM2 hw1
              go_wp2_with fail
              go_loopg [11, 12] g1.L.length (fun gg tv kv W => ∃ (t : Nat) (v : Value) (g2 : NetG) (z : Int), gg = g2.L.length ∧ tv = .int .i64 t ∧ kv = .int .i64 z ∧ t + g2.L.length = n ∧ Hid (Mine w W b v g2 ∧ MapB W bm I.length (memB I) ∧ g2.W = arF I ∧ NextOk g2 z))
              case atStart => exact ⟨0, _, _, _, rfl, rfl, rfl, by omega, HM3⟩
              case round =>
                obtain ⟨t, v2, g2, z, hgk, rfl, rfl, hsum, HT⟩ := hrel
                rename World => W8
                clear HM3
                rcases HT.out.2.2.2 with ⟨rfl, hnone⟩ | ⟨k2, rfl, hk2, hpk, hfirst⟩
                case inr =>
                  have hk20 : (0 : Int) ≤ k2 := by omega
                  have hp2 := pasK_at hk2 hpk
                  have hin2 := within HT.out.1.1.ok hk2
                  have HF2 := hid_mk (And.intro hp2 (And.intro hin2 hfirst))
                  clear hp2 hin2 hfirst hpk
                  go_wp2_with fail
                  refine (take_any HT.out.1.1 k2 hk2).mono ?_
                  rintro e w9 h9
                  obtain ⟨va', vc', hee, v9, h10⟩ := take_got HF2.out.1 h9
                  clear h9
                  subst hee
                  have HT2 := hid_mk (show Mine w w9 b v9 (remG g2 k2) ∧ MapB w9 bm I.length (memB I) from ⟨HT.out.1.npv h10, HT.out.2.1.np HT.out.1.1 h10⟩)
                  clear h10
                  have hmem : memB I g2.L[k2].1.fr = memB I g2.L[k2].1.tw := by
                    have h := HF2.out.1
                    rw [HT.out.2.2.1, pas_mem I HF2.out.2.1.1 HF2.out.2.1.2] at h
                    exact eq_of_beq h
                  have HMF := hid_mk hmem
                  clear hmem
                  have HNX := hid_mk (And.intro HT.out.2.2.1 (And.intro HF2.out.2.2 (len_rem hk2)))
                  have HR2 := hid_mk HF2.out.2.1
                  have hlr := len_rem hk2
                  clear HF2 HT
                  generalize g2.L[k2] = x2 at *
                  obtain ⟨⟨fr, tw, bs⟩, sv⟩ := x2
                  simp only at *
                  have HB := hid_mk (blk_alloc w9 #[.int .i64 fr, .int .i64 tw, .slice va' bs.length vc'] 39)
                  have HT3 := hid_mk (show Mine w (w9.alloc (.cells #[.int .i64 fr, .int .i64 tw, .slice va' bs.length vc'] 39)) b v9 (remG g2 k2) ∧ MapB (w9.alloc (.cells #[.int .i64 fr, .int .i64 tw, .slice va' bs.length vc'] 39)) bm I.length (memB I) from ⟨HT2.out.1.kept (World.grownBy_alloc w9 _ none), HT2.out.2.kept (World.grownBy_alloc w9 _ none) (by simp)⟩)
                  clear HT2
                  go_upto_region 22 with fail
                  generalize hw10 : w9.alloc (.cells #[.int .i64 fr, .int .i64 tw, .slice va' bs.length vc'] 39) = w10 at *
                  clear hw10
                  generalize w9.heap.size = q9 at *
                  obtain ⟨d0, d1, d2, _⟩ := blk3 HB.out
                  have f0 := HT3.out.2.look HR2.out.1.1 HR2.out.1.2
                  have f1 := HT3.out.2.look HR2.out.2.1 HR2.out.2.2
                  rw [HMF.out] at f0
                  clear HMF
                  cases hmt : memB I tw
                  all_goals
                    rw [hmt] at f0 f1
                    clear hmt
                    have HT4 : Hid (Mine w w10 b v9 (remG g2 k2) ∧ MapB w10 bm I.length (memB I)) := HT3
                    clear HT3 HB
                    go_upto_region 24 with (go_at_call 10; refine (num_any _ _).mono ?_; rintro e w' ⟨rfl, hw⟩; rw [hw]; clear hw)
                    clear f0 f1 d0 d1 d2
                    go_wp2_with fail
                    refine (next_any HT4.out.1.1 k2).mono ?_
                    rintro e w12 ⟨rfl, hg⟩
                    have HT5 := hid_mk (show Mine w w12 b v9 (remG g2 k2) ∧ MapB w12 bm I.length (memB I) ∧ (remG g2 k2).W = arF I ∧ NextOk (remG g2 k2) (nextI (remG g2 k2) k2) from ⟨HT4.out.1.kept hg, HT4.out.2.kept hg (by simp), HNX.out.1, next_after HNX.out.2.1⟩)
                    clear HT4 hg
                    go_wp2_with fail
                    go_roundg (remG g2 k2).L.length
                    case measure => omega
                    case rel => exact ⟨t + 1, _, _, _, rfl, by go_num, rfl, by omega, HT5⟩
                case inl =>
                  have hm1 : ¬ (0 : Int) ≤ -1 := by omega
                  have HN5 := hid_mk hnone
                  have HT6 := hid_mk (And.intro HT.out.1 (And.intro HT.out.2.1 HT.out.2.2.1))
                  clear HT hnone
                  go_upto_region 25 with fail
                  clear hm1 hgk
                  have hfew2 : (g2.L.length : Int) ≤ 10000 := by have h1 := HT6.out.1.1.ok.few; have h2 := HT6.out.1.1.ok.hi; omega
                  go_wp2_with (go_at_call 15; refine (len_any HT6.out.1.1).mono ?_; rintro e w' ⟨rfl, hw⟩; rw [hw]; clear hw)
                  go_loopg [16] g2.L.length (fun gg iv W => ∃ k : Nat, gg = g2.L.length - k ∧ k ≤ g2.L.length ∧ iv = .int .i64 k ∧ Hid (Mine w W b v2 g2 ∧ MapB W bm I.length (memB I) ∧ g2.W = arF I))
                  case atStart => exact ⟨0, rfl, by omega, rfl, HT6⟩
                  case round =>
                    obtain ⟨k3, hgk, hk3, rfl, HK⟩ := hrel
                    rename World => W9
                    clear HT6
                    by_cases hlt : k3 < g2.L.length
                    · have hlt' : (k3 : Int) < g2.L.length := by omega
                      have HP := hid_mk (And.intro (pasK_not hlt (HN5.out k3)) (within HK.out.1.1.ok hlt))
                      go_wp2_with fail
                      refine (look_ok HK.out.1.1 k3 hlt).mono ?_
                      rintro e w9 ⟨v', rfl, ho, hg⟩
                      have HV := hid_mk ho.len
                      have HK1 := hid_mk (show Mine w w9 b v2 g2 ∧ MapB w9 bm I.length (memB I) from ⟨HK.out.1.kept hg, HK.out.2.1.kept hg (by simp)⟩)
                      clear ho hg
                      obtain ⟨va', vc', rfl⟩ := HV.out
                      clear HV
                      have HB := hid_mk (blk_alloc w9 #[.int .i64 g2.L[k3].1.fr, .int .i64 g2.L[k3].1.tw, .slice va' g2.L[k3].1.b.length vc'] 39)
                      have HK2 := hid_mk (show Mine w (w9.alloc (.cells #[.int .i64 g2.L[k3].1.fr, .int .i64 g2.L[k3].1.tw, .slice va' g2.L[k3].1.b.length vc'] 39)) b v2 g2 ∧ MapB (w9.alloc (.cells #[.int .i64 g2.L[k3].1.fr, .int .i64 g2.L[k3].1.tw, .slice va' g2.L[k3].1.b.length vc'] 39)) bm I.length (memB I) from ⟨HK1.out.1.kept (World.grownBy_alloc w9 _ none), HK1.out.2.kept (World.grownBy_alloc w9 _ none) (by simp)⟩)
                      clear HK1
                      go_upto_region 30 with fail
                      generalize hw10 : w9.alloc (.cells #[.int .i64 g2.L[k3].1.fr, .int .i64 g2.L[k3].1.tw, .slice va' g2.L[k3].1.b.length vc'] 39) = w10 at *
                      clear hw10
                      generalize w9.heap.size = q9 at *
                      go_wp2_with fail
                      refine (take_any HK2.out.1.1 k3 hlt).mono ?_
                      rintro e w11 h11
                      obtain ⟨hee, hg⟩ := take_held HP.out.1 h11
                      clear h11
                      subst hee
                      have HK3 := hid_mk (show Mine w w11 b v2 g2 ∧ MapB w11 bm I.length (memB I) from ⟨HK2.out.1.kept hg, HK2.out.2.kept hg (by simp)⟩)
                      have HB3 := hid_mk (HB.out.kept hg (by simp))
                      clear HB HK2 hg
                      have HK4 := hid_mk (show Mine w (w11.alloc (.cells #[.int .i64 0, .int .i64 0, .slice none 0 0] 39)) b v2 g2 ∧ MapB (w11.alloc (.cells #[.int .i64 0, .int .i64 0, .slice none 0 0] 39)) bm I.length (memB I) from ⟨HK3.out.1.kept (World.grownBy_alloc w11 _ none), HK3.out.2.kept (World.grownBy_alloc w11 _ none) (by simp)⟩)
                      have HB4 := hid_mk (HB3.out.kept (World.grownBy_alloc w11 (.cells #[.int .i64 0, .int .i64 0, .slice none 0 0] 39) none) (by simp))
                      clear HB3 HK3
                      go_upto_region 31 with fail
                      generalize hw12 : w11.alloc (.cells #[.int .i64 0, .int .i64 0, .slice none 0 0] 39) = w12 at *
                      clear hw12
                      have hmem : memB I g2.L[k3].1.tw = !memB I g2.L[k3].1.fr := by
                        have h := HP.out.1
                        rw [HK.out.2.2, pas_mem I HP.out.2.1 HP.out.2.2] at h
                        cases h1 : memB I g2.L[k3].1.fr <;> cases h2 : memB I g2.L[k3].1.tw <;> rw [h1, h2] at h <;> first | rfl | cases h
                      have hop : openB g2 g2.L[k3].1.fr g2.L[k3].1.tw g2.L[k3].1.b.length = false := by unfold openB; rw [HP.out.1, Bool.and_false]
                      have HOP := hid_mk hop
                      clear hop
                      have HR2 := hid_mk HP.out.2
                      have HW2 := hid_mk HK.out.2.2
                      clear HP HK
                      generalize g2.L[k3] = x2 at *
                      obtain ⟨⟨fr, tw, bs⟩, sv⟩ := x2
                      simp only at *
                      obtain ⟨d0, d1, d2, _⟩ := blk3 HB4.out
                      have f0 := HK4.out.2.look HR2.out.1.1 HR2.out.1.2
                      have f1 := HK4.out.2.look HR2.out.2.1 HR2.out.2.2
                      rw [hmem] at f1
                      clear hmem
                      cases hmt : memB I fr
                      all_goals
                        rw [hmt] at f0 f1
                        clear hmt
                        simp only [Bool.not_true, Bool.not_false] at f1
                        go_wp2_with (go_at_call 10; refine (num_any _ _).mono ?_; rintro e w' ⟨rfl, hw⟩; rw [hw]; clear hw)
                        refine (open_any HK4.out.1.1 fr tw va' bs.length vc').mono ?_
                        rintro e w13 ⟨rfl, hg⟩
                        rw [HOP.out]
                        have HT4 := hid_mk (show Mine w w13 b v2 g2 ∧ MapB w13 bm I.length (memB I) ∧ g2.W = arF I from ⟨HK4.out.1.kept hg, HK4.out.2.kept hg (by simp), HW2.out⟩)
                        clear HK4 HB4 hg f0 f1 d0 d1 d2
                        go_wp2_with fail
                        go_roundg (g2.L.length - (k3 + 1))
                        case measure => omega
                        case rel => exact ⟨k3 + 1, rfl, by omega, by go_num, HT4⟩
                    · have hlt' : ¬ (k3 : Int) < g2.L.length := by omega
                      have HT7 := hid_mk HK.out.1
                      clear HK
                      go_upto_region 33 with fail
                      clear hlt' hlt hgk hk3
                      have hs2 : (g2.L.length : Int) + (t : Int) = (n : Int) := by omega
                      have hsw : (g2.L.length : Int) + (t : Int) ≤ 10000 := by omega
                      go_wp2_with (go_at_call 10; refine (num_any _ _).mono ?_; rintro e w' ⟨rfl, hw⟩; rw [hw]; clear hw)
                      refine (wall_nil HT7.out.1).mono ?_
                      rintro e w10 ⟨rfl, v10, h10⟩
                      have HT9 := hid_mk (HT7.out.npv h10)
                      clear h10 HT7 HN5
                      have HG0 := hid_mk (show (wallG g2 []).L.length = g2.L.length ∧ (wallG g2 []).W = arF [] from ⟨rfl, rfl⟩)
                      generalize hg3 : wallG g2 [] = g3 at *
                      clear hg3
                      go_wp2_with (go_at_call 10; refine (num_any _ _).mono ?_; rintro e w' ⟨rfl, hw⟩; rw [hw]; clear hw)
                      go_loopg [21] g2.L.length (fun gg iv W => ∃ (k : Nat) (v : Value) (g4 : NetG), gg = g2.L.length - k ∧ g4.L.length + k = g2.L.length ∧ iv = .int .i64 k ∧ Hid (Mine w W b v g4 ∧ g4.W = arF []))
                      case atStart => exact ⟨0, _, _, rfl, by have := HG0.out.1; omega, rfl, hid_mk ⟨HT9.out, HG0.out.2⟩⟩
                      case round =>
                        obtain ⟨k5, v5, g4, hgk, hk5, rfl, HE⟩ := hrel
                        rename World => W10
                        clear HT9 HG0
                        by_cases hlt : k5 < g2.L.length
                        · have hlt' : (k5 : Int) < g2.L.length := by omega
                          have h04 : 0 < g4.L.length := by omega
                          go_wp2_with fail
                          refine (take_any HE.out.1.1 0 h04).mono ?_
                          rintro e w9 h9
                          obtain ⟨va', vc', hee, v9, h10⟩ := take_got (by rw [HE.out.2]; exact pas_free _ _) h9
                          clear h9
                          subst hee
                          have HE2 := hid_mk (show Mine w (w9.alloc (.cells #[.int .i64 g4.L[0].1.fr, .int .i64 g4.L[0].1.tw, .slice va' g4.L[0].1.b.length vc'] 39)) b v9 (remG g4 0) ∧ (remG g4 0).W = arF [] from ⟨(HE.out.1.npv h10).kept (World.grownBy_alloc w9 _ none), HE.out.2⟩)
                          have hlr := len_rem h04
                          clear h10 HE
                          go_wp2_with (go_at_call 10; refine (num_any _ _).mono ?_; rintro e w' ⟨rfl, hw⟩; rw [hw]; clear hw)
                          go_roundg (g2.L.length - (k5 + 1))
                          case measure => omega
                          case rel => exact ⟨k5 + 1, _, _, rfl, by omega, by go_num, HE2⟩
                        · have hlt' : ¬ (k5 : Int) < g2.L.length := by omega
                          have h0 : g4.L.length = 0 := by omega
                          go_wp2_with (go_at_call 15; refine (len_any HE.out.1.1).mono ?_; rintro e w' ⟨rfl, hw⟩; rw [hw]; clear hw)
                          go_ret
                          exact ⟨rfl, HE.out.1.2⟩
end Go.Proofs.Ythidpnjndhelbaa
