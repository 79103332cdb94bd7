/- ReadsMajority. -/
import Derived.Test.YthfdoliojbhcjaaBkMa
namespace Go.Proofs.Ythfdoliojbhcjaa
open Go.RowKit Go.Maps
set_option linter.unusedVariables false
set_option linter.unusedSimpArgs false
set_option maxRecDepth 100000

theorem rem_lit (n : Int) (s : Nat) (h1 : 1 ≤ s) (h2 : s ≤ 1000) : wrap64 (n.tmod s + s) = n.tmod s + s ∧ (n.tmod s + s).tmod s = (rst n s : Int) := by
  have hb := tmod_bd n h1 h2
  exact ⟨by unfold wrap64; omega, twice_rem n s h1⟩
theorem askE_new (m : Nat) (id ix rd : Int) (h0 : 0 ≤ ix) (h1 : 0 ≤ rd) : askE (newB m) id ix rd = 0 := by
  unfold askE
  rw [if_neg (by omega), if_neg (by simp [newB]), if_neg (by simp [newB])]
theorem IsB.beside {W W' : World} {B b : Nat} {v : Value} {g : Bk} (h : IsB W B b v g) {B' : Nat} {e : TypeId} {size : Nat} {u : Value} {n : Nat} {xs : List Value} (ho : W.ownsRow B' e size u n xs) (h1 : e ≠ 45) (h2 : e ≠ 66) (hg : W.grownBy W' u.ownBlock) : IsB W' B b v g :=
  ⟨h.blk.kept hg (own_ne ho h.blk h1.symm), owns_kept2 h.row hg (fun k e1 e2 => h.apart ho h1 h2 k e2.symm (.inr e1)), h.low, h.ok⟩
theorem info3' : (Try.prog.info? 3).map (fun i => (i.zero, i.size, i.bytes)) = some (some (.int .i64 0), 1, 8) := info3
theorem one_int (z : Int) : ∀ u ∈ [Value.int .i64 z], u.oneCell' = true := by simp [Value.oneCell']
set_option maxHeartbeats 4000000 in
theorem readsMajority_walk (me n r : Int) (hv : Value) (hd : List Int) (w : World) (hN : Nums w hv hd) : Calls Try.prog 6 #[.int .i64 me, .int .i64 n, hv, .int .i64 r] w fun e w' => e = .returned (.bool true) ∧ w.grownBy w' none := by
  obtain ⟨ha, hc, rfl⟩ := hN.1.len
  have HN := hid_mk hN
  have hlen := hN.2.2
  clear hN
  have HA0 := hid_mk (rem_lit n 7 (by omega) (by omega))
  have HR0 := hid_mk (rem_lit r 50 (by omega) (by omega))
  have hs := rst_lt n (show 1 ≤ 7 by omega)
  have hR := rst_lt r (show 1 ≤ 50 by omega)
  generalize rst n 7 = s at *
  generalize rst r 50 = R at *
  obtain ⟨N, hNN⟩ : ∃ N, N = s + 1 := ⟨_, rfl⟩
  have n3 : wrap64 (1 + (s : Int)) = (N : Int) := by unfold wrap64; omega
  have hN1 : 1 ≤ N := by omega
  have hN7 : N ≤ 7 := by omega
  have HB := hid_mk (rem_lit me N hN1 (by omega))
  have hm := rst_lt me hN1
  generalize rst me N = m at *
  have hz : ((N : Int) == 0) = false := beq_eq_false_iff_ne.2 (by omega)
  have hz1 : ¬ N = 0 := by omega
  have HM := hid_mk (show m < N ∧ N ≤ 7 ∧ R < 50 from ⟨hm, hN7, hR⟩)
  have HA : Hid (wrap64 (n.tmod 7 + 7) = n.tmod 7 + 7 ∧ (n.tmod 7 + 7).tmod 7 = (s : Int) ∧ wrap64 (1 + (s : Int)) = (N : Int)) := hid_mk ⟨HA0.out.1, HA0.out.2, n3⟩
  have HR : Hid (wrap64 (r.tmod 50 + 50) = r.tmod 50 + 50 ∧ (r.tmod 50 + 50).tmod 50 = (R : Int)) := HR0
  clear HA0 HR0 hNN hN1 hN7 hm hR hs n3
  go_enter Try.func6, Try.ntmps6
  go_upto_region 2 with fail
  simp only [HA.out.1, HA.out.2.1, HA.out.2.2]
  go_upto_region 3 with fail
  simp only [HB.out.1, HB.out.2]
  clear hz hz1
  go_upto_region 4 with fail
  simp only [HR.out.1, HR.out.2]
  clear HA HR HB
  go_wp2_with fail
  refine (m_new (grown_refl w none) m (by have := HM.out; omega)).mono ?_
  rintro e w1 ⟨b, rfl, h1⟩
  have H1 := hid_mk h1
  clear h1
  go_wp2_with (go_at_call 10; refine (num_any _ _).mono ?_; rintro e w' ⟨rfl, hw⟩; rw [hw]; clear hw)
  refine (ask_any H1.out.1 1 9 R (by have := HM.out; omega)).mono ?_
  rintro e w2 ⟨rfl, h2⟩
  obtain ⟨v2, h2⟩ := H1.out.bp h2
  have e0 := askE_new m 1 9 R (by omega) (by omega)
  rw [e0]
  unfold askG at h2
  rw [if_pos e0] at h2
  have H2 := hid_mk h2
  clear h2 e0 H1
  go_wp2_with (go_at_call 10; refine (num_any _ _).mono ?_; rintro e w' ⟨rfl, hw⟩; rw [hw]; clear hw)
  refine (knows_any w2).mono ?_
  rintro e w3 ⟨rfl, hg⟩
  have H3 := hid_mk (H2.out.kept hg)
  clear hg H2
  go_wp2_with fail
  go_loopg [11, 12, 13, 14] N (fun g lv cv iv av W => ∃ (i cn : Nat) (a : Option Addr) (c : Nat), i ≤ N ∧ cn ≤ i ∧ g = N - i ∧ iv = .int .i64 i ∧ lv = .slice a i c ∧ cv = .int .i64 cn ∧ Hid (cn = cM m R hd i ∧ OwnI W w.heap.size (.slice a i c) (seqL i) ∧ ∃ v g, Mine w W b v g ∧ g.L = [⟨1, 9, R⟩] ∧ InvM m R hd i g.H))
  case atStart => exact ⟨0, 0, none, 0, Nat.zero_le _, Nat.le_refl _, rfl, rfl, rfl, rfl, hid_mk ⟨rfl, OwnI.nil _ _, v2, _, H3.out, rfl, inv_new (by have := HM.out; omega) HM.out.2.2⟩⟩
  case round =>
    obtain ⟨i, cn, a, c, hi, hcn, hgk, rfl, rfl, rfl, H⟩ := hrel
    rename World => W
    clear H3
    by_cases hlt : i < N
    · have hlt' : (i : Int) < N := by omega
      have hN7 : N ≤ 7 := HM.out.2.1
      obtain ⟨hcM, hrow, v, g, hmine, hgL, hinv⟩ := H.out
      have HG := hid_mk (And.intro hrow (And.intro hmine (And.intro hgL hinv)))
      clear hcM hrow hmine hgL hinv
      have hid : (i : Int) + 1 ≤ 7 := by omega
      go_upto_region 14 with (at_builtin; refine wp_appG2 _ rfl Try.underlying32 info3' rfl (by decide) (by decide) HG.out.2.1.2 (show W.ownsRow w.heap.size 3 1 (.slice a i c) i (i64s (seqL i)) by (have := HG.out.1; unfold OwnI at this; rwa [seqL_len] at this)) [.int .i64 i] rfl (one_int i) (by omega) rfl _ _ rfl rfl rfl ?_; intro a' c' W1 HA)
      have H1 := hid_mk (show OwnI W1 w.heap.size (.slice a' (i + 1) c') (seqL (i + 1)) ∧ Mine w W1 b v g ∧ g.L = [⟨1, 9, R⟩] ∧ InvM m R hd i g.H from
        ⟨by unfold OwnI; rw [seqL_len, seqL_succ]; have := HA.out.1; simpa [i64s] using this, ⟨HG.out.2.1.1.beside HG.out.1 (by decide) (by decide) HA.out.2.2.1, HA.out.2.1⟩, HG.out.2.2⟩)
      clear HA HG
      by_cases hil : i < hd.length
      · have hil' : (i : Int) < hd.length := by omega
        obtain ⟨gb, off, cap, e, hcx⟩ := (HN.out.1.kept H1.out.2.1.2).get i hil
        injection e with e1 e2 e3
        subst e1
        clear e2 e3
        have hgx : hd.getD i 0 = hd[i] := by rw [List.getD_eq_getElem?_getD, List.getElem?_eq_getElem hil]; rfl
        rw [← hgx] at hcx
        clear hgx
        have HX := hid_mk (rem_lit (hd.getD i 0) 50 (by omega) (by omega))
        have hat := rst_lt (hd.getD i 0) (show 1 ≤ 50 by omega)
        have HV := hid_mk (inv_hear H1.out.2.2.2 hil (by omega))
        have HPx := hid_mk (show pM m R hd i = (decide (i = m) || decide (R ≤ rst (hd.getD i 0) 50)) by unfold pM; simp [hil])
        generalize hat0 : rst (hd.getD i 0) 50 = at0' at *
        clear hat0
        generalize hd.getD i 0 = x at *
        have HX2 : Hid (wrap64 (x.tmod 50 + 50) = x.tmod 50 + 50 ∧ (x.tmod 50 + 50).tmod 50 = (at0' : Int)) := HX
        clear HX
        go_upto_region 16 with fail
        simp only [HX2.out.1, HX2.out.2]
        clear HX2 hcx
        go_wp2_with fail
        refine (heard_any H1.out.2.1.1 i at0' (by omega)).mono ?_
        rintro e w4 ⟨rfl, hb4⟩
        have hhE : hearE (i : Int) (at0' : Int) = 0 := by unfold hearE; rw [if_pos (by omega)]
        have hhG : hearG g (i : Int) (at0' : Int) = hearB g i at0' := by unfold hearG; rw [if_pos (by omega)]; rfl
        rw [hhG] at hb4
        rw [hhE]
        obtain ⟨v4, hk4⟩ := H1.out.2.1.bp hb4
        have H4 := hid_mk (show OwnI w4 w.heap.size (.slice a' (i + 1) c') (seqL (i + 1)) ∧ ∃ v g, Mine w w4 b v g ∧ g.L = [⟨1, 9, R⟩] ∧ InvM m R hd (i + 1) g.H from
          ⟨by obtain ⟨_, _, hk, _⟩ := hb4; exact OwnI.keeps H1.out.2.1.1 H1.out.1 hk, v4, _, hk4, H1.out.2.2.1, HV.out⟩)
        clear hb4 hk4 hhE hhG H1 HV
        by_cases him : i = m
        · have him' : ((i : Int) == (m : Int)) = true := by rw [him]; simp
          have HP := hid_mk (show pM m R hd i = true by unfold pM; simp [him])
          clear him
          go_wp2_with fail
          go_roundg (N - (i + 1))
          case measure => omega
          case rel => exact ⟨i + 1, cn + 1, a', c', by omega, by omega, rfl, by go_num, rfl, by go_num, hid_mk ⟨by rw [cM_succ, HP.out, ← H.out.1]; rfl, H4.out.1, H4.out.2⟩⟩
        · have him' : ((i : Int) == (m : Int)) = false := beq_eq_false_iff_ne.2 (by omega)
          by_cases hra : R ≤ at0'
          · have hra' : (R : Int) ≤ (at0' : Int) := by omega
            have HP := hid_mk (show pM m R hd i = true by rw [HPx.out]; simp [hra])
            clear him hra
            go_wp2_with fail
            go_roundg (N - (i + 1))
            case measure => omega
            case rel => exact ⟨i + 1, cn + 1, a', c', by omega, by omega, rfl, by go_num, rfl, by go_num, hid_mk ⟨by rw [cM_succ, HP.out, ← H.out.1]; rfl, H4.out.1, H4.out.2⟩⟩
          · have hra' : ¬ (R : Int) ≤ (at0' : Int) := by omega
            have HP := hid_mk (show pM m R hd i = false by rw [HPx.out]; simp [hra, him])
            clear him hra
            go_wp2_with fail
            go_roundg (N - (i + 1))
            case measure => omega
            case rel => exact ⟨i + 1, cn, a', c', by omega, by omega, rfl, by go_num, rfl, rfl, hid_mk ⟨by rw [cM_succ, HP.out, ← H.out.1]; rfl, H4.out.1, H4.out.2⟩⟩
      · have hil' : ¬ (i : Int) < hd.length := by omega
        have H4 := hid_mk (show OwnI W1 w.heap.size (.slice a' (i + 1) c') (seqL (i + 1)) ∧ ∃ v g, Mine w W1 b v g ∧ g.L = [⟨1, 9, R⟩] ∧ InvM m R hd (i + 1) g.H from
          ⟨H1.out.1, v, g, H1.out.2.1, H1.out.2.2.1, inv_skip H1.out.2.2.2 (by omega)⟩)
        clear H1
        by_cases him : i = m
        · have him' : ((i : Int) == (m : Int)) = true := by rw [him]; simp
          have HP := hid_mk (show pM m R hd i = true by unfold pM; simp [him])
          clear him
          go_wp2_with fail
          go_roundg (N - (i + 1))
          case measure => omega
          case rel => exact ⟨i + 1, cn + 1, a', c', by omega, by omega, rfl, by go_num, rfl, by go_num, hid_mk ⟨by rw [cM_succ, HP.out, ← H.out.1]; rfl, H4.out.1, H4.out.2⟩⟩
        · have him' : ((i : Int) == (m : Int)) = false := beq_eq_false_iff_ne.2 (by omega)
          have hra' : ¬ (R : Int) ≤ -1 := by omega
          have HP := hid_mk (show pM m R hd i = false by unfold pM; simp [him, hil])
          clear him
          go_wp2_with fail
          go_roundg (N - (i + 1))
          case measure => omega
          case rel => exact ⟨i + 1, cn, a', c', by omega, by omega, rfl, by go_num, rfl, rfl, hid_mk ⟨by rw [cM_succ, HP.out, ← H.out.1]; rfl, H4.out.1, H4.out.2⟩⟩
    · have hlt' : ¬ (i : Int) < N := by omega
      obtain rfl : i = N := by omega
      clear hlt
      obtain ⟨hcM, hrow, v, g, hmine, hgL, hinv⟩ := H.out
      have HG := hid_mk (And.intro hrow (And.intro hmine (And.intro hgL hinv)))
      have HW := hid_mk (won_seq hinv (by have := HM.out; omega) HM.out.1)
      have HCN := hid_mk hcM
      have h7 : i ≤ 7 := HM.out.2.1
      clear hcM hrow hmine hgL hinv
      go_wp2_with fail
      refine (ready_any HG.out.2.1.1 (seqL i) _ ⟨HG.out.1.ints, seq_wf i (by omega), by rw [seqL_len]; omega⟩).mono ?_
      rintro e w5 ⟨u, rfl, hu, h5⟩
      obtain ⟨v5, h5⟩ := HG.out.2.1.bp h5
      have H5 := hid_mk h5
      have hlen := done_one (S := seqL i) HG.out.2.2.1
      rw [HW.out, ← HCN.out] at hlen
      obtain ⟨ua, uc, hu⟩ := row_shape hu
      rw [hlen] at hu
      rw [hu]
      clear hu hlen h5
      by_cases hw : i < 2 * cn
      · rw [decide_eq_true hw, if_pos rfl]
        have hw' : (i : Int) < 2 * cn := by omega
        clear hw
        go_wp2_with fail
        go_ret
        exact ⟨rfl, H5.out.2⟩
      · rw [decide_eq_false hw, if_neg (by simp)]
        have hw' : ¬ (i : Int) < 2 * cn := by omega
        have hw2 : decide ((i : Int) < 2 * cn) = false := decide_eq_false hw'
        clear hw
        go_wp2_with fail
        go_ret
        exact ⟨rfl, H5.out.2⟩
end Go.Proofs.Ythfdoliojbhcjaa
