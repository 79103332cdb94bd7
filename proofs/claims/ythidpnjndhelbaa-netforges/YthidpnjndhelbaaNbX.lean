/- NetForges' walk. -/
import Derived.Test.YthidpnjndhelbaaNbX0
namespace Go.Proofs.Ythidpnjndhelbaa
open Go.RowKit Go.Maps
set_option linter.unusedVariables false
set_option linter.unusedSimpArgs false
set_option maxRecDepth 100000
set_option maxHeartbeats 8000000 in
theorem netForges_walk (oa : Option Addr) (oc : Nat) (O : List OpG) (w : World) (hO : OpsR w (.slice oa O.length oc) O) (hl1 : O.length ≤ 140737488355328) : Calls Try.prog 5 #[.slice oa O.length oc] w fun e w' => e = .returned (.bool true) ∧ w.grownBy w' none := by
  have HO := hid_mk hO
  clear hO
  go_enter Try.func5, Try.ntmps5
  go_wp2_with fail
  refine (m_new (grown_refl w none) 1000 (by omega) (by omega)).mono ?_
  rintro e w1 ⟨b, rfl, h1, _, _⟩
  have H1 := hid_mk h1
  clear h1
  go_wp2_with (go_at_call 10; refine (num_any _ _).mono ?_; rintro e w' ⟨rfl, hw⟩; rw [hw]; clear hw)
  refine (knows_any _).mono ?_
  rintro e w3 ⟨rfl, hg⟩
  have H4 := hid_mk (H1.out.kept hg)
  clear hg H1
  have hmm := run_makeMap55
  go_upto_region 5 with fail
  have HM := hid_mk (And.intro (H4.out.kept (World.grownBy_alloc w3 (.map #[] 0) none)) (And.intro (mapS_new w3) H4.out.2.size))
  clear H4 hmm
  generalize w3.alloc (.map #[] 0) = w4 at *
  generalize w3.heap.size = bm at *
  go_wp2_with fail
  go_loopg [6, 7] O.length (fun gg tv iv W => ∃ (k nn : Nat) (v : Value) (g : NetG), gg = O.length - k ∧ k ≤ O.length ∧ nn ≤ k ∧ tv = .int .i64 g.L.length ∧ iv = .int .i64 k ∧ Hid (Mine w W b v g ∧ MapS W bm nn (cnt g) ∧ w.heap.size ≤ bm))
  case atStart => exact ⟨0, 0, _, newN 1000, rfl, by omega, by omega, rfl, rfl, HM⟩
  case round =>
    obtain ⟨k, nn, v, g, hgk, hk, hnk, rfl, rfl, HR⟩ := hrel
    rename World => W5
    clear HM
    have hfew : (g.L.length : Int) ≤ 10000 := by have h1 := HR.out.1.1.ok.few; have h2 := HR.out.1.1.ok.hi; omega
    by_cases hkl : k < O.length
    case neg =>
      have hkl' : ¬ (k : Int) < O.length := by omega
      go_wp2_with fail
      go_ret
      exact ⟨rfl, HR.out.1.2⟩
    by_cases hkh : k < 300
    case neg =>
      have hkl' : (k : Int) < O.length := by omega
      have hkh' : ¬ (k : Int) < 300 := by omega
      go_wp2_with fail
      go_ret
      exact ⟨rfl, HR.out.1.2⟩
    have hkl' : (k : Int) < O.length := by omega
    have hkh' : (k : Int) < 300 := by omega
    obtain ⟨ob, offo, capo, eo, hcs⟩ := (HO.out.kept HR.out.1.2).2.2 k hkl
    injection eo with eo eo2 eo3
    clear eo2 eo3
    subst eo
    have hok := HO.out.2.1 _ (List.getElem_mem hkl)
    have c0 := hcs 0 _ rfl
    have c1 := hcs 1 _ rfl
    have c2 := hcs 2 _ rfl
    have c3 := hcs 3 _ rfl
    have c4 := hcs 4 _ rfl
    have c5 := hcs 5 _ rfl
    clear hcs
    have HKL := hid_mk hkl
    have HNK := hid_mk hnk
    clear hnk
    generalize O[k] = o0 at *
    obtain ⟨kd, kk, ⟨⟨fr0, tw0, bs0⟩, sv0⟩, iv, ids⟩ := o0
    simp only [Nat.add_zero] at c0 c1 c2 c3 c4 c5
    obtain ⟨sa0, sc0, hsv⟩ := hok.1.1.len
    obtain ⟨ia0, ic0, hiv⟩ := hok.2.1.len
    simp only at hsv hiv
    subst hsv
    subst hiv
    have HKW := hid_mk hok
    clear hok
    go_upto_region 10 with fail
    clear c0 c1 c2 c3 c4 c5
    have HB8 := hid_mk (blk_alloc W5 #[.int .i64 kd, .int .i64 kk, .int .i64 fr0, .int .i64 tw0, .slice sa0 bs0.length sc0, .slice ia0 ids.length ic0] 37)
    have HG6 := hid_mk (World.grownBy_alloc W5 (.cells #[.int .i64 kd, .int .i64 kk, .int .i64 fr0, .int .i64 tw0, .slice sa0 bs0.length sc0, .slice ia0 ids.length ic0] 37) none)
    have HR6 := hid_mk (And.intro (HR.out.1.kept HG6.out) (And.intro (HR.out.2.1.kept HG6.out (by simp)) HR.out.2.2))
    clear HR HG6
    generalize hw6 : W5.alloc (.cells #[.int .i64 kd, .int .i64 kk, .int .i64 fr0, .int .i64 tw0, .slice sa0 bs0.length sc0, .slice ia0 ids.length ic0] 37) = W6 at *
    clear hw6
    generalize W5.heap.size = q8 at *
    obtain ⟨e0, e1, e2, e3, e4, e5⟩ := blk6 HB8.out
    go_wp2_with fail
    by_cases hin : 0 ≤ kk ∧ kk < g.L.length
    · obtain ⟨m, rfl⟩ : ∃ m : Nat, kk = m := ⟨kk.toNat, by omega⟩
      have hm : m < g.L.length := by omega
      clear hin
      have HLO6 := hid_mk (And.intro (fun k (hk : v.ownBlock = some k) => (owns_lt HR6.out.1.1.row hk).2) HR6.out.1.1.blk.lt)
      refine (look_ok HR6.out.1.1 m hm).mono ?_
      rintro e w7 ⟨v', rfl, ho, hg⟩
      obtain ⟨va', vc', rfl⟩ := ho.len
      have HLO := hid_mk (And.intro HLO6.out.1 (And.intro HLO6.out.2 hg.size))
      have HW0 := hid_mk (okL_iff.1 (HR6.out.1.1.ok.lts _ (List.getElem_mem hm)))
      have HL7 := hid_mk (And.intro (HR6.out.1.kept hg) (And.intro (HR6.out.2.1.kept hg (by simp)) (And.intro (HB8.out.kept hg (by simp)) (And.intro ho trivial))))
      have HBM := hid_mk HR6.out.2.2
      clear ho hg HR6 HB8 HLO6
      generalize W6.heap.size = B6 at *
      obtain ⟨x, hx⟩ : ∃ x, x = g.L[m] := ⟨_, rfl⟩
      rw [← hx] at HW0
      simp only [← hx] at HL7 ⊢
      have HXL := hid_mk (show ∃ hm : m < g.L.length, g.L[m] = x from ⟨hm, hx.symm⟩)
      clear hx
      obtain ⟨⟨fr, tw, bs⟩, sv⟩ := x
      simp only at *
      have HW := hid_mk (show (0 ≤ fr ∧ fr < 16) ∧ (0 ≤ tw ∧ tw < 16) ∧ bs.length ≤ 1048576 from ⟨HW0.out.1, HW0.out.2.1, HW0.out.2.2.2⟩)
      clear HW0
      have hbl : ¬ 9223372036854775807 < 2 + bs.length := by have := HW.out.2.2; omega
      have HL8 := hid_mk (And.intro (HL7.out.1.kept (World.grownBy_alloc w7 (.cells #[.int .i64 fr, .int .i64 tw, .slice va' bs.length vc'] 39) none)) (And.intro (HL7.out.2.1.kept (World.grownBy_alloc w7 (.cells #[.int .i64 fr, .int .i64 tw, .slice va' bs.length vc'] 39) none) (by simp)) (And.intro (HL7.out.2.2.1.kept (World.grownBy_alloc w7 (.cells #[.int .i64 fr, .int .i64 tw, .slice va' bs.length vc'] 39) none) (by simp)) (And.intro (own_grown HL7.out.2.2.2.1 (World.grownBy_alloc w7 (.cells #[.int .i64 fr, .int .i64 tw, .slice va' bs.length vc'] 39) none)) (blk_alloc w7 #[.int .i64 fr, .int .i64 tw, .slice va' bs.length vc'] 39)))))
      clear HL7 e0 e1 e2 e3 e4 e5
      go_upto_region 11 with fail
      generalize hw8 : w7.alloc (.cells #[.int .i64 fr, .int .i64 tw, .slice va' bs.length vc'] 39) = w8 at *
      clear hw8
      have HQ9 := hid_mk (show w7.heap.size = w7.heap.size from rfl)
      generalize hq9 : w7.heap.size = q9 at *
      clear hq9 HQ9
      have HG9 := hid_mk (World.grownBy_alloc w8 (.cells #[.int .u8 (fr % 256), .int .u8 (tw % 256)] 5) none)
      have t1 := (two_bytM w8 fr tw HW.out.1 HW.out.2.1).text
      have t2 := (own_grown HL8.out.2.2.2.1 HG9.out).byt.text
      obtain ⟨d0, d1, d2, _⟩ := blk3 HL8.out.2.2.2.2
      obtain ⟨f0, f1, f2, _⟩ := blk3 (HL8.out.2.2.2.2.kept HG9.out (by simp))
      have HL9 := hid_mk (And.intro (HL8.out.1.kept HG9.out) (And.intro (HL8.out.2.1.kept HG9.out (by simp)) (And.intro (HL8.out.2.2.1.kept HG9.out (by simp)) (And.intro (own_grown HL8.out.2.2.2.1 HG9.out) (HL8.out.2.2.2.2.kept HG9.out (by simp))))))
      clear HL8 HG9
      go_upto_region 12 with fail
      clear t1 t2 d0 d1 d2 f0 f1 f2
      generalize hw9 : w8.alloc (.cells #[.int .u8 (fr % 256), .int .u8 (tw % 256)] 5) = w9 at *
      clear hw9
      have HKY := hid_mk (key_cat fr tw bs HW.out.2.2)
      clear hbl
      generalize (⟨#[UInt8.ofNat fr.toNat, UInt8.ofNat tw.toNat]⟩ ++ ⟨bs.toArray⟩ : ByteArray) = K at *
      obtain ⟨e0, e1, e2, e3, e4, e5⟩ := blk6 HL9.out.2.2.1
      by_cases k0 : kd = 0
      · as_aux_lemma =>
          subst k0
          go_wp2_with fail
          refine (own_any (HKW.out.kept HL9.out.1.2).1.1 HKW.out.1.2 fr0 tw0).mono ?_
          rintro e w10 ⟨v1, rfl, ho1, hg1⟩
          have HS := hid_mk (And.intro (HL9.out.1.kept hg1) (And.intro (HL9.out.2.1.kept hg1 (by simp)) (And.intro (HL9.out.2.2.1.kept hg1 (by simp)) ho1.byt)))
          clear ho1 hg1 e0 e1 e2 e3 e4 e5 HL9
          go_wp2_with fail
          refine (send_any HS.out.1.1 fr0 tw0 v1 bs0 HS.out.2.2.2).mono ?_
          rintro e w11 ⟨z, rfl, hz⟩
          rcases hz with ⟨rfl, hse, u, ⟨v6, h7⟩, _⟩ | ⟨hz0, _, hg2⟩
          · have HIN := hid_mk (send_okL hse)
            have hbl0 : ¬ 9223372036854775807 < 2 + bs0.length := by have := HIN.out.2.2; simp only at this; omega
            have HS2 := hid_mk (And.intro (HS.out.1.npv h7) (And.intro (HS.out.2.1.np HS.out.1.1 h7) (HS.out.2.2.1.keeps h7.keeps (apart37 HS.out.1.1 HS.out.2.2.1))))
            clear h7 HS hse
            have HG12 := hid_mk (World.grownBy_alloc w11 (.cells #[.int .u8 (fr0 % 256), .int .u8 (tw0 % 256)] 5) none)
            have t1 := (two_bytM w11 fr0 tw0 HIN.out.1 HIN.out.2.1).text
            have t2 := ((HKW.out.kept HS2.out.1.2).1.1.kept HG12.out).text
            obtain ⟨d0, d1, d2, d3, d4, d5⟩ := blk6 HS2.out.2.2
            obtain ⟨f0, f1, f2, f3, f4, f5⟩ := blk6 (HS2.out.2.2.kept HG12.out (by simp))
            have HS3 := hid_mk (show Mine w (w11.alloc (.cells #[.int .u8 (fr0 % 256), .int .u8 (tw0 % 256)] 5)) b v6 (addG g (⟨fr0, tw0, bs0⟩, u)) ∧ MapS (w11.alloc (.cells #[.int .u8 (fr0 % 256), .int .u8 (tw0 % 256)] 5)) bm nn (cnt g) from ⟨HS2.out.1.kept HG12.out, HS2.out.2.1.kept HG12.out (by simp)⟩)
            clear HS2 HG12
            go_upto_region 16 with (go_at_call 10; refine (num_any _ _).mono ?_; rintro e w' ⟨rfl, hw⟩; rw [hw]; clear hw)
            clear t1 t2 d0 d1 d2 d3 d4 d5 f0 f1 f2 f3 f4 f5 hbl0
            generalize hw12 : w11.alloc (.cells #[.int .u8 (fr0 % 256), .int .u8 (tw0 % 256)] 5) = w12 at *
            clear hw12
            have HKY0 := hid_mk (key_cat fr0 tw0 bs0 HIN.out.2.2)
            generalize (⟨#[UInt8.ofNat fr0.toNat, UInt8.ofNat tw0.toNat]⟩ ++ ⟨bs0.toArray⟩ : ByteArray) = K0 at *
            have hlen : ((addG g (⟨fr0, tw0, bs0⟩, u)).L.length : Int) = g.L.length + 1 := by rw [len_add]; omega
            have fL := HS3.out.2.look HKY0.out.2
            rw [HKY0.out.1] at fL
            have hcl := cnt_le g (keyL ⟨fr0, tw0, bs0⟩)
            have HC0 := hid_mk (cnt_add g (⟨fr0, tw0, bs0⟩, u))
            have hlt20 : (g.L.length : Int) ≤ 10000 := hfew
            generalize hc : cnt g (keyL ⟨fr0, tw0, bs0⟩) = c at *
            have HC : Hid (cnt (addG g (⟨fr0, tw0, bs0⟩, u)) = fun z => if z = K0.data.toList then c + 1 else cnt g z) := hid_mk (by rw [HKY0.out.1]; exact HC0.out)
            clear hc HC0
            obtain ⟨D, hD⟩ := HS3.out.2
            have HDD := hid_mk hD
            clear hD
            go_wp2_with (first | (at_mapUpdate; refine wpList_mapUpdate_own _ rfl _ _ _ 55 rfl 9 3 key9 Try.underlying55 _ bm nn D rfl HDD.out.own (by have := HNK.out; unfold maxLen; omega) _ _ (.string K0.data.toList) rfl rfl (skey HKY0.out.2) _ [] (plainElem_int Try.underlying3 (int_wf (x := c + 1) (by omega) (by omega))) ?_; intro w13 hown13 hgrow13; have HF := hid_mk (show Mine w w13 b v6 (addG g (⟨fr0, tw0, bs0⟩, u)) ∧ MapS w13 bm (nn + 1) (cnt (addG g (⟨fr0, tw0, bs0⟩, u))) ∧ w.heap.size ≤ bm from ⟨HS3.out.1.maps HS3.out.2 HBM.out hgrow13, by rw [HC.out]; exact HDD.out.put hown13, HBM.out⟩)) | (go_at_call 10; refine (num_any _ _).mono ?_; rintro e w' ⟨rfl, hw⟩; rw [hw]; clear hw) | (go_at_call 15; refine (len_any HF.out.1.1).mono ?_; rintro e w' ⟨rfl, hw⟩; rw [hw]; clear hw))
            go_roundg (O.length - (k + 1))
            case measure => have := HKL.out; omega
            case rel => exact ⟨k + 1, nn + 1, v6, (addG g (⟨fr0, tw0, bs0⟩, u)), rfl, by have := HKL.out; omega, by have := HNK.out; omega, by first | rfl | rw [hlen], by go_num, HF⟩
          · have HF := hid_mk (show Mine w w11 b v g ∧ MapS w11 bm nn (cnt g) ∧ w.heap.size ≤ bm from ⟨HS.out.1.kept hg2, HS.out.2.1.kept hg2 (by simp), HBM.out⟩)
            clear hg2 HS
            go_wp2_with (first | (go_at_call 10; refine (num_any _ _).mono ?_; rintro e w' ⟨rfl, hw⟩; rw [hw]; clear hw) | (go_at_call 15; refine (len_any HF.out.1.1).mono ?_; rintro e w' ⟨rfl, hw⟩; rw [hw]; clear hw))
            go_roundg (O.length - (k + 1))
            case measure => have := HKL.out; omega
            case rel => exact ⟨k + 1, nn, v, g, rfl, by have := HKL.out; omega, by have := HNK.out; omega, by first | rfl | rw [hlen], by go_num, HF⟩
      by_cases k1 : kd = 1
      · as_aux_lemma =>
          subst k1
          have hk10 : ¬ (1 : Int) = 0 := by omega
          go_wp2_with fail
          refine (take_any HL9.out.1.1 m hm).mono ?_
          rintro e w10 h9
          have hxm : g.L[m] = ((⟨fr, tw, bs⟩ : Lt), sv) := HXL.out.2
          simp only [hxm] at h9
          clear hxm
          rcases h9 with ⟨_, rfl, hg⟩ | ⟨_, v2, rfl, ho2, v9, h10⟩
          · have HF := hid_mk (show Mine w (w10.alloc (.cells #[.int .i64 0, .int .i64 0, .slice none 0 0] 39)) b v g ∧ MapS (w10.alloc (.cells #[.int .i64 0, .int .i64 0, .slice none 0 0] 39)) bm nn (cnt g) ∧ w.heap.size ≤ bm from ⟨(HL9.out.1.kept hg).kept (World.grownBy_alloc w10 _ none), (HL9.out.2.1.kept hg (by simp)).kept (World.grownBy_alloc w10 _ none) (by simp), HBM.out⟩)
            clear hg HL9 e0 e1 e2 e3 e4 e5
            go_wp2_with (first | (go_at_call 10; refine (num_any _ _).mono ?_; rintro e w' ⟨rfl, hw⟩; rw [hw]; clear hw) | (go_at_call 15; refine (len_any HF.out.1.1).mono ?_; rintro e w' ⟨rfl, hw⟩; rw [hw]; clear hw))
            go_roundg (O.length - (k + 1))
            case measure => have := HKL.out; omega
            case rel => exact ⟨k + 1, nn, v, g, rfl, by have := HKL.out; omega, by have := HNK.out; omega, by first | rfl | rw [hlen], by go_num, HF⟩
          · obtain ⟨va2, vc2, rfl⟩ := ho2.len
            have HT := hid_mk (And.intro (HL9.out.1.npv h10) (And.intro (HL9.out.2.1.np HL9.out.1.1 h10) (And.intro (own_apart HL9.out.2.2.2.1 h10 HLO.out.1 HLO.out.2.1) (And.intro (box_apart HL9.out.2.2.2.2 h10 (fun k hk => Nat.lt_of_lt_of_le (HLO.out.1 k hk) HLO.out.2.2) (Nat.lt_of_lt_of_le HLO.out.2.1 HLO.out.2.2)) ho2.byt))))
            clear h10 ho2 HL9 e0 e1 e2 e3 e4 e5
            have HGY := hid_mk (World.grownBy_alloc w10 (.cells #[.int .i64 fr, .int .i64 tw, .slice va2 bs.length vc2] 39) none)
            have HT2 := hid_mk (show Mine w (w10.alloc (.cells #[.int .i64 fr, .int .i64 tw, .slice va2 bs.length vc2] 39)) b v9 (remG g m) ∧ MapS (w10.alloc (.cells #[.int .i64 fr, .int .i64 tw, .slice va2 bs.length vc2] 39)) bm nn (cnt g) from ⟨HT.out.1.kept HGY.out, HT.out.2.1.kept HGY.out (by simp)⟩)
            have t1 := (own_grown HT.out.2.2.1 HGY.out).byt.text
            have t2 := (HT.out.2.2.2.2.kept HGY.out).text
            obtain ⟨d0, d1, d2, _⟩ := blk3 (HT.out.2.2.2.1.kept HGY.out (by simp))
            obtain ⟨f0, f1, f2, _⟩ := blk3 (blk_alloc w10 #[.int .i64 fr, .int .i64 tw, .slice va2 bs.length vc2] 39)
            clear HT HGY
            go_upto_region 20 with fail
            generalize hw11 : w10.alloc (.cells #[.int .i64 fr, .int .i64 tw, .slice va2 bs.length vc2] 39) = w11 at *
            clear hw11
            generalize w10.heap.size = q10 at *
            have HPOS := hid_mk (show 1 ≤ cnt g (keyL ⟨fr, tw, bs⟩) by have := cnt_pos hm; rw [HXL.out.2] at this; exact this)
            have hlen : ((remG g m).L.length : Int) = g.L.length - 1 := by have := len_rem hm; omega
            have fL := HT2.out.2.look HKY.out.2
            rw [HKY.out.1] at fL
            have hcl := cnt_le g (keyL ⟨fr, tw, bs⟩)
            have HC0 := hid_mk (show cnt (remG g m) = (fun z => if z = keyL ⟨fr, tw, bs⟩ then cnt g (keyL ⟨fr, tw, bs⟩) - 1 else cnt g z) by rw [cnt_rem hm, HXL.out.2])
            have hc1 := HPOS.out
            have hlt20 : (g.L.length : Int) ≤ 10000 := hfew
            generalize hc : cnt g (keyL ⟨fr, tw, bs⟩) = c at *
            have HC : Hid (cnt (remG g m) = fun z => if z = K.data.toList then c - 1 else cnt g z) := hid_mk (by rw [HKY.out.1]; exact HC0.out)
            clear hc HC0
            obtain ⟨D, hD⟩ := HT2.out.2
            have HDD := hid_mk hD
            clear hD
            have hc1' : ¬ c < 1 := by omega
            go_wp2_with (first | (at_mapUpdate; refine wpList_mapUpdate_own _ rfl _ _ _ 55 rfl 9 3 key9 Try.underlying55 _ bm nn D rfl HDD.out.own (by have := HNK.out; unfold maxLen; omega) _ _ (.string K.data.toList) rfl rfl (skey HKY.out.2) _ [] (plainElem_int Try.underlying3 (int_wf (x := c - 1) (by omega) (by omega))) ?_; intro w13 hown13 hgrow13; have HF := hid_mk (show Mine w w13 b v9 (remG g m) ∧ MapS w13 bm (nn + 1) (cnt (remG g m)) ∧ w.heap.size ≤ bm from ⟨HT2.out.1.maps HT2.out.2 HBM.out hgrow13, by rw [HC.out]; exact HDD.out.put hown13, HBM.out⟩)) | (go_at_call 10; refine (num_any _ _).mono ?_; rintro e w' ⟨rfl, hw⟩; rw [hw]; clear hw) | (go_at_call 15; refine (len_any HF.out.1.1).mono ?_; rintro e w' ⟨rfl, hw⟩; rw [hw]; clear hw))
            go_roundg (O.length - (k + 1))
            case measure => have := HKL.out; omega
            case rel => exact ⟨k + 1, nn + 1, v9, (remG g m), rfl, by have := HKL.out; omega, by have := HNK.out; omega, by first | rfl | rw [hlen], by go_num, HF⟩
      by_cases k2 : kd = 2
      · as_aux_lemma =>
          subst k2
          go_wp2_with fail
          have HLS := lose_any HL9.out.1.1 m
          rw [findE_ok hm, show loseG g m = remG g m by unfold loseG; rw [if_pos (by omega)]; rfl] at HLS
          refine HLS.mono ?_
          clear HLS
          rintro e w10 ⟨rfl, v9, h10⟩
          have HT2 := hid_mk (show Mine w w10 b v9 (remG g m) ∧ MapS w10 bm nn (cnt g) from ⟨HL9.out.1.npv h10, HL9.out.2.1.np HL9.out.1.1 h10⟩)
          clear h10 HL9 e0 e1 e2 e3 e4 e5
          have HPOS := hid_mk (show 1 ≤ cnt g (keyL ⟨fr, tw, bs⟩) by have := cnt_pos hm; rw [HXL.out.2] at this; exact this)
          have hlen : ((remG g m).L.length : Int) = g.L.length - 1 := by have := len_rem hm; omega
          have fL := HT2.out.2.look HKY.out.2
          rw [HKY.out.1] at fL
          have hcl := cnt_le g (keyL ⟨fr, tw, bs⟩)
          have HC0 := hid_mk (show cnt (remG g m) = (fun z => if z = keyL ⟨fr, tw, bs⟩ then cnt g (keyL ⟨fr, tw, bs⟩) - 1 else cnt g z) by rw [cnt_rem hm, HXL.out.2])
          have hc1 := HPOS.out
          have hlt20 : (g.L.length : Int) ≤ 10000 := hfew
          generalize hc : cnt g (keyL ⟨fr, tw, bs⟩) = c at *
          have HC : Hid (cnt (remG g m) = fun z => if z = K.data.toList then c - 1 else cnt g z) := hid_mk (by rw [HKY.out.1]; exact HC0.out)
          clear hc HC0
          obtain ⟨D, hD⟩ := HT2.out.2
          have HDD := hid_mk hD
          clear hD
          go_wp2_with (first | (at_mapUpdate; refine wpList_mapUpdate_own _ rfl _ _ _ 55 rfl 9 3 key9 Try.underlying55 _ bm nn D rfl HDD.out.own (by have := HNK.out; unfold maxLen; omega) _ _ (.string K.data.toList) rfl rfl (skey HKY.out.2) _ [] (plainElem_int Try.underlying3 (int_wf (x := c - 1) (by omega) (by omega))) ?_; intro w13 hown13 hgrow13; have HF := hid_mk (show Mine w w13 b v9 (remG g m) ∧ MapS w13 bm (nn + 1) (cnt (remG g m)) ∧ w.heap.size ≤ bm from ⟨HT2.out.1.maps HT2.out.2 HBM.out hgrow13, by rw [HC.out]; exact HDD.out.put hown13, HBM.out⟩)) | (go_at_call 10; refine (num_any _ _).mono ?_; rintro e w' ⟨rfl, hw⟩; rw [hw]; clear hw) | (go_at_call 15; refine (len_any HF.out.1.1).mono ?_; rintro e w' ⟨rfl, hw⟩; rw [hw]; clear hw))
          go_roundg (O.length - (k + 1))
          case measure => have := HKL.out; omega
          case rel => exact ⟨k + 1, nn + 1, v9, (remG g m), rfl, by have := HKL.out; omega, by have := HNK.out; omega, by first | rfl | rw [hlen], by go_num, HF⟩
      by_cases k3 : kd = 3
      · as_aux_lemma =>
          subst k3
          go_wp2_with fail
          by_cases hfu : g.most ≤ g.L.length
          · refine (dbl_full HL9.out.1.1 m hm hfu).mono ?_
            rintro e w10 ⟨rfl, hg⟩
            have HF := hid_mk (show Mine w w10 b v g ∧ MapS w10 bm nn (cnt g) ∧ w.heap.size ≤ bm from ⟨HL9.out.1.kept hg, HL9.out.2.1.kept hg (by simp), HBM.out⟩)
            clear hg HL9 e0 e1 e2 e3 e4 e5 hfu
            go_wp2_with (first | (go_at_call 10; refine (num_any _ _).mono ?_; rintro e w' ⟨rfl, hw⟩; rw [hw]; clear hw) | (go_at_call 15; refine (len_any HF.out.1.1).mono ?_; rintro e w' ⟨rfl, hw⟩; rw [hw]; clear hw))
            go_roundg (O.length - (k + 1))
            case measure => have := HKL.out; omega
            case rel => exact ⟨k + 1, nn, v, g, rfl, by have := HKL.out; omega, by have := HNK.out; omega, by first | rfl | rw [hlen], by go_num, HF⟩
          · have HDB := dbl_ok HL9.out.1.1 m hm hfu
            rw [HXL.out.2] at HDB
            refine HDB.mono ?_
            clear HDB
            rintro e w10 ⟨rfl, v9, h10⟩
            have HT2 := hid_mk (show Mine w w10 b v9 (addG g (⟨fr, tw, bs⟩, sv)) ∧ MapS w10 bm nn (cnt g) from ⟨HL9.out.1.npv h10, HL9.out.2.1.np HL9.out.1.1 h10⟩)
            clear h10 HL9 e0 e1 e2 e3 e4 e5 hfu
            have hlen : ((addG g (⟨fr, tw, bs⟩, sv)).L.length : Int) = g.L.length + 1 := by rw [len_add]; omega
            have fL := HT2.out.2.look HKY.out.2
            rw [HKY.out.1] at fL
            have hcl := cnt_le g (keyL ⟨fr, tw, bs⟩)
            have HC0 := hid_mk (cnt_add g (⟨fr, tw, bs⟩, sv))
            have hlt20 : (g.L.length : Int) ≤ 10000 := hfew
            generalize hc : cnt g (keyL ⟨fr, tw, bs⟩) = c at *
            have HC : Hid (cnt (addG g (⟨fr, tw, bs⟩, sv)) = fun z => if z = K.data.toList then c + 1 else cnt g z) := hid_mk (by rw [HKY.out.1]; exact HC0.out)
            clear hc HC0
            obtain ⟨D, hD⟩ := HT2.out.2
            have HDD := hid_mk hD
            clear hD
            go_wp2_with (first | (at_mapUpdate; refine wpList_mapUpdate_own _ rfl _ _ _ 55 rfl 9 3 key9 Try.underlying55 _ bm nn D rfl HDD.out.own (by have := HNK.out; unfold maxLen; omega) _ _ (.string K.data.toList) rfl rfl (skey HKY.out.2) _ [] (plainElem_int Try.underlying3 (int_wf (x := c + 1) (by omega) (by omega))) ?_; intro w13 hown13 hgrow13; have HF := hid_mk (show Mine w w13 b v9 (addG g (⟨fr, tw, bs⟩, sv)) ∧ MapS w13 bm (nn + 1) (cnt (addG g (⟨fr, tw, bs⟩, sv))) ∧ w.heap.size ≤ bm from ⟨HT2.out.1.maps HT2.out.2 HBM.out hgrow13, by rw [HC.out]; exact HDD.out.put hown13, HBM.out⟩)) | (go_at_call 10; refine (num_any _ _).mono ?_; rintro e w' ⟨rfl, hw⟩; rw [hw]; clear hw) | (go_at_call 15; refine (len_any HF.out.1.1).mono ?_; rintro e w' ⟨rfl, hw⟩; rw [hw]; clear hw))
            go_roundg (O.length - (k + 1))
            case measure => have := HKL.out; omega
            case rel => exact ⟨k + 1, nn + 1, v9, (addG g (⟨fr, tw, bs⟩, sv)), rfl, by have := HKL.out; omega, by have := HNK.out; omega, by first | rfl | rw [hlen], by go_num, HF⟩
      by_cases k4 : kd = 4
      · as_aux_lemma =>
          subst k4
          go_wp2_with fail
          refine (wall_any HL9.out.1.1 (.slice ia0 ids.length ic0) ids (HKW.out.kept HL9.out.1.2).2.1 HKW.out.2.2.1).mono ?_
          rintro e w10 ⟨rfl, v9, h10⟩
          have HF := hid_mk (show Mine w w10 b v9 (wallG g ids) ∧ MapS w10 bm nn (cnt (wallG g ids)) ∧ w.heap.size ≤ bm from ⟨HL9.out.1.npv h10, by rw [cnt_wall]; exact HL9.out.2.1.np HL9.out.1.1 h10, HBM.out⟩)
          clear h10 HL9 e0 e1 e2 e3 e4 e5
          have hlen : ((wallG g ids).L.length : Int) = g.L.length := by rw [len_wall]
          go_wp2_with (first | (go_at_call 10; refine (num_any _ _).mono ?_; rintro e w' ⟨rfl, hw⟩; rw [hw]; clear hw) | (go_at_call 15; refine (len_any HF.out.1.1).mono ?_; rintro e w' ⟨rfl, hw⟩; rw [hw]; clear hw))
          go_roundg (O.length - (k + 1))
          case measure => have := HKL.out; omega
          case rel => exact ⟨k + 1, nn, v9, (wallG g ids), rfl, by have := HKL.out; omega, by have := HNK.out; omega, by first | rfl | rw [hlen], by go_num, HF⟩
      as_aux_lemma =>
        have HF := hid_mk (show Mine w w9 b v g ∧ MapS w9 bm nn (cnt g) ∧ w.heap.size ≤ bm from ⟨HL9.out.1, HL9.out.2.1, HBM.out⟩)
        clear HL9
        go_wp2_with (first | (go_at_call 10; refine (num_any _ _).mono ?_; rintro e w' ⟨rfl, hw⟩; rw [hw]; clear hw) | (go_at_call 15; refine (len_any HF.out.1.1).mono ?_; rintro e w' ⟨rfl, hw⟩; rw [hw]; clear hw))
        go_roundg (O.length - (k + 1))
        case measure => have := HKL.out; omega
        case rel => exact ⟨k + 1, nn, v, g, rfl, by have := HKL.out; omega, by have := HNK.out; omega, by first | rfl | rw [hlen], by go_num, HF⟩
    · refine (look_bad HR6.out.1.1 kk hin).mono ?_
      rintro e w7 ⟨rfl, hg⟩
      have HL7 := hid_mk (And.intro (HR6.out.1.kept hg) (And.intro (HR6.out.2.1.kept hg (by simp)) (And.intro (HB8.out.kept hg (by simp)) (And.intro (Byt.nil w7) trivial))))
      have HBM := hid_mk HR6.out.2.2
      clear hg HR6 HB8
      have HL8 := hid_mk (And.intro (HL7.out.1.kept (World.grownBy_alloc w7 (.cells #[.int .i64 0, .int .i64 0, .slice none 0 0] 39) none)) (And.intro (HL7.out.2.1.kept (World.grownBy_alloc w7 (.cells #[.int .i64 0, .int .i64 0, .slice none 0 0] 39) none) (by simp)) (And.intro (HL7.out.2.2.1.kept (World.grownBy_alloc w7 (.cells #[.int .i64 0, .int .i64 0, .slice none 0 0] 39) none) (by simp)) (And.intro (HL7.out.2.2.2.1.kept (World.grownBy_alloc w7 (.cells #[.int .i64 0, .int .i64 0, .slice none 0 0] 39) none)) (blk_alloc w7 #[.int .i64 0, .int .i64 0, .slice none 0 0] 39)))))
      clear HL7 e0 e1 e2 e3 e4 e5
      go_upto_region 11 with fail
      generalize hw8 : w7.alloc (.cells #[.int .i64 0, .int .i64 0, .slice none 0 0] 39) = w8 at *
      clear hw8
      have HQ9 := hid_mk (show w7.heap.size = w7.heap.size from rfl)
      generalize hq9 : w7.heap.size = q9 at *
      clear hq9 HQ9
      have HG9 := hid_mk (World.grownBy_alloc w8 (.cells #[.int .u8 0, .int .u8 0] 5) none)
      have t1 := (two_byt w8 0 0 (by omega) (by omega)).text
      have t2 := (HL8.out.2.2.2.1.kept HG9.out).text
      obtain ⟨d0, d1, d2, _⟩ := blk3 HL8.out.2.2.2.2
      obtain ⟨f0, f1, f2, _⟩ := blk3 (HL8.out.2.2.2.2.kept HG9.out (by simp))
      have HL9 := hid_mk (And.intro (HL8.out.1.kept HG9.out) (And.intro (HL8.out.2.1.kept HG9.out (by simp)) (And.intro (HL8.out.2.2.1.kept HG9.out (by simp)) (And.intro (HL8.out.2.2.2.1.kept HG9.out) (HL8.out.2.2.2.2.kept HG9.out (by simp))))))
      clear HL8 HG9
      go_upto_region 12 with fail
      clear t1 t2 d0 d1 d2 f0 f1 f2
      generalize hw9 : w8.alloc (.cells #[.int .u8 0, .int .u8 0] 5) = w9 at *
      clear hw9
      obtain ⟨e0, e1, e2, e3, e4, e5⟩ := blk6 HL9.out.2.2.1
      by_cases k0 : kd = 0
      · as_aux_lemma =>
          subst k0
          go_wp2_with fail
          refine (own_any (HKW.out.kept HL9.out.1.2).1.1 HKW.out.1.2 fr0 tw0).mono ?_
          rintro e w10 ⟨v1, rfl, ho1, hg1⟩
          have HS := hid_mk (And.intro (HL9.out.1.kept hg1) (And.intro (HL9.out.2.1.kept hg1 (by simp)) (And.intro (HL9.out.2.2.1.kept hg1 (by simp)) ho1.byt)))
          clear ho1 hg1 e0 e1 e2 e3 e4 e5 HL9
          go_wp2_with fail
          refine (send_any HS.out.1.1 fr0 tw0 v1 bs0 HS.out.2.2.2).mono ?_
          rintro e w11 ⟨z, rfl, hz⟩
          rcases hz with ⟨rfl, hse, u, ⟨v6, h7⟩, _⟩ | ⟨hz0, _, hg2⟩
          · have HIN := hid_mk (send_okL hse)
            have hbl0 : ¬ 9223372036854775807 < 2 + bs0.length := by have := HIN.out.2.2; simp only at this; omega
            have HS2 := hid_mk (And.intro (HS.out.1.npv h7) (And.intro (HS.out.2.1.np HS.out.1.1 h7) (HS.out.2.2.1.keeps h7.keeps (apart37 HS.out.1.1 HS.out.2.2.1))))
            clear h7 HS hse
            have HG12 := hid_mk (World.grownBy_alloc w11 (.cells #[.int .u8 (fr0 % 256), .int .u8 (tw0 % 256)] 5) none)
            have t1 := (two_bytM w11 fr0 tw0 HIN.out.1 HIN.out.2.1).text
            have t2 := ((HKW.out.kept HS2.out.1.2).1.1.kept HG12.out).text
            obtain ⟨d0, d1, d2, d3, d4, d5⟩ := blk6 HS2.out.2.2
            obtain ⟨f0, f1, f2, f3, f4, f5⟩ := blk6 (HS2.out.2.2.kept HG12.out (by simp))
            have HS3 := hid_mk (show Mine w (w11.alloc (.cells #[.int .u8 (fr0 % 256), .int .u8 (tw0 % 256)] 5)) b v6 (addG g (⟨fr0, tw0, bs0⟩, u)) ∧ MapS (w11.alloc (.cells #[.int .u8 (fr0 % 256), .int .u8 (tw0 % 256)] 5)) bm nn (cnt g) from ⟨HS2.out.1.kept HG12.out, HS2.out.2.1.kept HG12.out (by simp)⟩)
            clear HS2 HG12
            go_upto_region 16 with (go_at_call 10; refine (num_any _ _).mono ?_; rintro e w' ⟨rfl, hw⟩; rw [hw]; clear hw)
            clear t1 t2 d0 d1 d2 d3 d4 d5 f0 f1 f2 f3 f4 f5 hbl0
            generalize hw12 : w11.alloc (.cells #[.int .u8 (fr0 % 256), .int .u8 (tw0 % 256)] 5) = w12 at *
            clear hw12
            have HKY0 := hid_mk (key_cat fr0 tw0 bs0 HIN.out.2.2)
            generalize (⟨#[UInt8.ofNat fr0.toNat, UInt8.ofNat tw0.toNat]⟩ ++ ⟨bs0.toArray⟩ : ByteArray) = K0 at *
            have hlen : ((addG g (⟨fr0, tw0, bs0⟩, u)).L.length : Int) = g.L.length + 1 := by rw [len_add]; omega
            have fL := HS3.out.2.look HKY0.out.2
            rw [HKY0.out.1] at fL
            have hcl := cnt_le g (keyL ⟨fr0, tw0, bs0⟩)
            have HC0 := hid_mk (cnt_add g (⟨fr0, tw0, bs0⟩, u))
            have hlt20 : (g.L.length : Int) ≤ 10000 := hfew
            generalize hc : cnt g (keyL ⟨fr0, tw0, bs0⟩) = c at *
            have HC : Hid (cnt (addG g (⟨fr0, tw0, bs0⟩, u)) = fun z => if z = K0.data.toList then c + 1 else cnt g z) := hid_mk (by rw [HKY0.out.1]; exact HC0.out)
            clear hc HC0
            obtain ⟨D, hD⟩ := HS3.out.2
            have HDD := hid_mk hD
            clear hD
            go_wp2_with (first | (at_mapUpdate; refine wpList_mapUpdate_own _ rfl _ _ _ 55 rfl 9 3 key9 Try.underlying55 _ bm nn D rfl HDD.out.own (by have := HNK.out; unfold maxLen; omega) _ _ (.string K0.data.toList) rfl rfl (skey HKY0.out.2) _ [] (plainElem_int Try.underlying3 (int_wf (x := c + 1) (by omega) (by omega))) ?_; intro w13 hown13 hgrow13; have HF := hid_mk (show Mine w w13 b v6 (addG g (⟨fr0, tw0, bs0⟩, u)) ∧ MapS w13 bm (nn + 1) (cnt (addG g (⟨fr0, tw0, bs0⟩, u))) ∧ w.heap.size ≤ bm from ⟨HS3.out.1.maps HS3.out.2 HBM.out hgrow13, by rw [HC.out]; exact HDD.out.put hown13, HBM.out⟩)) | (go_at_call 10; refine (num_any _ _).mono ?_; rintro e w' ⟨rfl, hw⟩; rw [hw]; clear hw) | (go_at_call 15; refine (len_any HF.out.1.1).mono ?_; rintro e w' ⟨rfl, hw⟩; rw [hw]; clear hw))
            go_roundg (O.length - (k + 1))
            case measure => have := HKL.out; omega
            case rel => exact ⟨k + 1, nn + 1, v6, (addG g (⟨fr0, tw0, bs0⟩, u)), rfl, by have := HKL.out; omega, by have := HNK.out; omega, by first | rfl | rw [hlen], by go_num, HF⟩
          · have HF := hid_mk (show Mine w w11 b v g ∧ MapS w11 bm nn (cnt g) ∧ w.heap.size ≤ bm from ⟨HS.out.1.kept hg2, HS.out.2.1.kept hg2 (by simp), HBM.out⟩)
            clear hg2 HS
            go_wp2_with (first | (go_at_call 10; refine (num_any _ _).mono ?_; rintro e w' ⟨rfl, hw⟩; rw [hw]; clear hw) | (go_at_call 15; refine (len_any HF.out.1.1).mono ?_; rintro e w' ⟨rfl, hw⟩; rw [hw]; clear hw))
            go_roundg (O.length - (k + 1))
            case measure => have := HKL.out; omega
            case rel => exact ⟨k + 1, nn, v, g, rfl, by have := HKL.out; omega, by have := HNK.out; omega, by first | rfl | rw [hlen], by go_num, HF⟩
      by_cases k1 : kd = 1
      · as_aux_lemma =>
          subst k1
          go_wp2_with fail
          refine (take_bad HL9.out.1.1 kk hin).mono ?_
          rintro e w10 ⟨rfl, hg⟩
          have HF := hid_mk (show Mine w (w10.alloc (.cells #[.int .i64 0, .int .i64 0, .slice none 0 0] 39)) b v g ∧ MapS (w10.alloc (.cells #[.int .i64 0, .int .i64 0, .slice none 0 0] 39)) bm nn (cnt g) ∧ w.heap.size ≤ bm from ⟨(HL9.out.1.kept hg).kept (World.grownBy_alloc w10 _ none), (HL9.out.2.1.kept hg (by simp)).kept (World.grownBy_alloc w10 _ none) (by simp), HBM.out⟩)
          clear hg HL9 e0 e1 e2 e3 e4 e5
          go_wp2_with (first | (go_at_call 10; refine (num_any _ _).mono ?_; rintro e w' ⟨rfl, hw⟩; rw [hw]; clear hw) | (go_at_call 15; refine (len_any HF.out.1.1).mono ?_; rintro e w' ⟨rfl, hw⟩; rw [hw]; clear hw))
          go_roundg (O.length - (k + 1))
          case measure => have := HKL.out; omega
          case rel => exact ⟨k + 1, nn, v, g, rfl, by have := HKL.out; omega, by have := HNK.out; omega, by first | rfl | rw [hlen], by go_num, HF⟩
      by_cases k2 : kd = 2
      · as_aux_lemma =>
          subst k2
          go_wp2_with fail
          have HLS := lose_any HL9.out.1.1 kk
          rw [findE_bad hin, show loseG g kk = g by unfold loseG; rw [if_neg hin]] at HLS
          refine HLS.mono ?_
          clear HLS
          rintro e w10 ⟨rfl, v9, h10⟩
          have HF := hid_mk (show Mine w w10 b v9 g ∧ MapS w10 bm nn (cnt g) ∧ w.heap.size ≤ bm from ⟨HL9.out.1.npv h10, HL9.out.2.1.np HL9.out.1.1 h10, HBM.out⟩)
          clear h10 HL9 e0 e1 e2 e3 e4 e5
          go_wp2_with (first | (go_at_call 10; refine (num_any _ _).mono ?_; rintro e w' ⟨rfl, hw⟩; rw [hw]; clear hw) | (go_at_call 15; refine (len_any HF.out.1.1).mono ?_; rintro e w' ⟨rfl, hw⟩; rw [hw]; clear hw))
          go_roundg (O.length - (k + 1))
          case measure => have := HKL.out; omega
          case rel => exact ⟨k + 1, nn, v9, g, rfl, by have := HKL.out; omega, by have := HNK.out; omega, by first | rfl | rw [hlen], by go_num, HF⟩
      by_cases k3 : kd = 3
      · as_aux_lemma =>
          subst k3
          go_wp2_with fail
          refine (dbl_bad HL9.out.1.1 kk hin).mono ?_
          rintro e w10 ⟨rfl, hw⟩
          subst hw
          have HF := hid_mk (show Mine w w10 b v g ∧ MapS w10 bm nn (cnt g) ∧ w.heap.size ≤ bm from ⟨HL9.out.1, HL9.out.2.1, HBM.out⟩)
          clear HL9 e0 e1 e2 e3 e4 e5
          go_wp2_with (first | (go_at_call 10; refine (num_any _ _).mono ?_; rintro e w' ⟨rfl, hw⟩; rw [hw]; clear hw) | (go_at_call 15; refine (len_any HF.out.1.1).mono ?_; rintro e w' ⟨rfl, hw⟩; rw [hw]; clear hw))
          go_roundg (O.length - (k + 1))
          case measure => have := HKL.out; omega
          case rel => exact ⟨k + 1, nn, v, g, rfl, by have := HKL.out; omega, by have := HNK.out; omega, by first | rfl | rw [hlen], by go_num, HF⟩
      by_cases k4 : kd = 4
      · as_aux_lemma =>
          subst k4
          go_wp2_with fail
          refine (wall_any HL9.out.1.1 (.slice ia0 ids.length ic0) ids (HKW.out.kept HL9.out.1.2).2.1 HKW.out.2.2.1).mono ?_
          rintro e w10 ⟨rfl, v9, h10⟩
          have HF := hid_mk (show Mine w w10 b v9 (wallG g ids) ∧ MapS w10 bm nn (cnt (wallG g ids)) ∧ w.heap.size ≤ bm from ⟨HL9.out.1.npv h10, by rw [cnt_wall]; exact HL9.out.2.1.np HL9.out.1.1 h10, HBM.out⟩)
          clear h10 HL9 e0 e1 e2 e3 e4 e5
          have hlen : ((wallG g ids).L.length : Int) = g.L.length := by rw [len_wall]
          go_wp2_with (first | (go_at_call 10; refine (num_any _ _).mono ?_; rintro e w' ⟨rfl, hw⟩; rw [hw]; clear hw) | (go_at_call 15; refine (len_any HF.out.1.1).mono ?_; rintro e w' ⟨rfl, hw⟩; rw [hw]; clear hw))
          go_roundg (O.length - (k + 1))
          case measure => have := HKL.out; omega
          case rel => exact ⟨k + 1, nn, v9, (wallG g ids), rfl, by have := HKL.out; omega, by have := HNK.out; omega, by first | rfl | rw [hlen], by go_num, HF⟩
      as_aux_lemma =>
        have HF := hid_mk (show Mine w w9 b v g ∧ MapS w9 bm nn (cnt g) ∧ w.heap.size ≤ bm from ⟨HL9.out.1, HL9.out.2.1, HBM.out⟩)
        clear HL9
        go_wp2_with (first | (go_at_call 10; refine (num_any _ _).mono ?_; rintro e w' ⟨rfl, hw⟩; rw [hw]; clear hw) | (go_at_call 15; refine (len_any HF.out.1.1).mono ?_; rintro e w' ⟨rfl, hw⟩; rw [hw]; clear hw))
        go_roundg (O.length - (k + 1))
        case measure => have := HKL.out; omega
        case rel => exact ⟨k + 1, nn, v, g, rfl, by have := HKL.out; omega, by have := HNK.out; omega, by first | rfl | rw [hlen], by go_num, HF⟩
end Go.Proofs.Ythidpnjndhelbaa
