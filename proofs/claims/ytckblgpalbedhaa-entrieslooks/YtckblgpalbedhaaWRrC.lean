/- A reader: the document's Number that goes on. -/
import Derived.Test.YtckblgpalbedhaaWRrB
namespace Go.Proofs.Ytckblgpalbedhaa.W
open Go.RowKit Go.Maps
set_option linter.unusedVariables false
set_option linter.unusedSimpArgs false

theorem wrap_id (z : Int) (h1 : -9223372036854775808 ≤ z) (h2 : z ≤ 9223372036854775807) : IntKind.i64.wrap z = z := by rw [IntKind.wrap_i64]; omega

set_option maxHeartbeats 4000000 in
theorem rnum_ok (M N b : Nat) (c : UInt8) (r : List UInt8) (w : World) (h : Rr w M N b ⟨c :: r, 0⟩) (h6 : ¬ 6 < c.toNat) (hs : ¬ r.length < c.toNat) (hz : ¬ (0 < c.toNat ∧ (r.take c.toNat).getLast? = some 0)) : Calls Try.prog 60 #[.pointer (some ⟨b, 0, none⟩)] w (NumPost M N b ⟨c :: r, 0⟩ w) := by
  have H := hid_mk h
  obtain ⟨hM, hN, bv, B, k, hb, hy, hk, hr, hB⟩ := h
  obtain ⟨c0, c1, c2, hf⟩ := rr_cells hb
  have f1 := hf 1
  have HL := hid_mk (rleft_all M N b ⟨c :: r, 0⟩ w H.out)
  obtain ⟨hkl, hBk, hBl, hBr⟩ := drop_cons hr.symm
  obtain ⟨bb, off, cap, rfl, hcap, hc⟩ := hy.byt.at (by omega)
  have hcc := hc k c hBk
  obtain ⟨t, ht⟩ : ∃ t, t = r.take c.toNat := ⟨_, rfl⟩
  have htl : t.length = c.toNat := by rw [ht]; simp; omega
  have FIN : Hid (∀ W, w.grownBy W none → NumPost M N b ⟨c :: r, 0⟩ w (.returned (.int .i64 (val t))) (W.setCell ⟨b, 1, none⟩ (.int .i64 ((k : Int) + 1 + c.toNat)))) := hid_mk (fun W hW => by
    unfold NumPost
    rw [readN_ok rfl]
    simp only [numR_cons, if_neg h6, if_neg hs, if_neg hz]
    rw [← ht]
    refine ⟨rfl, ?_, grown_trans (grown_any hW _) (grown_setCell _ _ _ _), by rw [(rr_cells (rr_set1 (W := W) ((hW.block b (Array.getElem?_eq_some_iff.1 hb).1 (by simp)).trans hb) _)).1, (rr_cells hb).1]⟩
    have := rr_store hM hN hb hy hB (W := W.setCell ⟨b, 1, none⟩ (.int .i64 ((k + 1 + c.toNat : Nat) : Int))) (grown_trans (grown_any hW _) (grown_setCell _ _ _ _)) (k + 1 + c.toNat) 0 (rr_set1 (W := W) ((hW.block b (Array.getElem?_eq_some_iff.1 hb).1 (by simp)).trans hb) _) (by omega)
    have e1 : B.drop (k + 1 + c.toNat) = (c :: r).drop (c.toNat + 1) := by rw [show (c :: r) = B.drop k from hr, List.drop_drop]; congr 1; omega
    rw [e1] at this
    rw [show ((k : Int) + 1 + c.toNat) = ((k + 1 + c.toNat : Nat) : Int) by omega]
    exact this)
  have HC : Hid (∀ (j : Nat) u, t[j]? = some u → w.cell? ⟨bb, off + (k + (j + 1)), none⟩ = some (.int .u8 u.toNat)) := hid_mk (fun j u hj => by
    rw [ht, List.getElem?_take] at hj
    split at hj
    · exact hc _ u (hBr j u hj)
    · cases hj)
  have HBK := hid_mk hb
  have HZ : Hid (0 < c.toNat → t.getLast? ≠ some 0) := hid_mk (fun h0 e => hz ⟨h0, by rw [← ht]; exact e⟩)
  have HTL := hid_mk htl
  have h6' : ¬ (6 < (c.toNat : Int)) := by omega
  have hc8 := c.toNat_lt
  have hkI : (k : Int) < (B.length : Int) := by omega
  have hkI0 : (0 : Int) ≤ (k : Int) := by omega
  obtain ⟨rl, hrl⟩ : ∃ rl, rl = (c :: r).length := ⟨_, rfl⟩
  have hl1 : ¬ ((rl : Int) < 1) := by rw [hrl]; simp; omega
  have hl2 : ¬ ((rl : Int) < 1 + (c.toNat : Int)) := by rw [hrl]; simp; omega
  have hkcB : k + c.toNat < B.length := by omega
  simp only [← hrl] at HL
  clear hy hr hb hf hc hBr hBk hrl hz ht htl hBl
  generalize c.toNat = n at *
  generalize B.length = R at *
  by_cases h0 : n = 0
  · subst h0
    have hv : val t = 0 := by rw [List.length_eq_zero_iff.1 HTL.out]; rfl
    rw [hv] at FIN
    have hzd : decide ((0 : Int) < 0) = false := by decide
    clear hv
    go_enter Try.func60, Try.ntmps60
    go_wp2_with (go_at_call 65; refine (HL.out _ (grown_refl _ _)).mono ?_; rintro e wx ⟨rfl, m, rfl⟩)
    go_quiet (fail)
    go_wp2_with (go_at_call 65; refine (HL.out _ ?_).mono ?_; (repeat (first | exact grown_drewN _ _ none | exact grown_refl _ _ | refine grown_trans ?_ (grown_drewN _ _ none))); rintro e wx ⟨rfl, m2, rfl⟩)
    go_quiet (fail)
    go_wp2
    go_loopg [4, 5] 0 (fun g xv iv W => iv = .int .i64 0 ∧ xv = .int .i64 0 ∧ Hid (w.grownBy W none))
    case atStart => exact ⟨rfl, rfl, hid_mk (by (repeat (first | exact grown_drewN _ _ none | exact grown_refl _ _ | refine grown_trans ?_ (grown_drewN _ _ none))))⟩
    case round =>
      obtain ⟨rfl, rfl, HG⟩ := hrel
      obtain ⟨d0, d1, d2, df⟩ := rr_cells ((HG.out.block b (Array.getElem?_eq_some_iff.1 HBK.out).1 (by simp)).trans HBK.out)
      have df1 := df 1
      clear df c0 c1 c2 f1 hcc
      go_wp2
      go_ret
      have := FIN.out _ HG.out
      simpa using this
  · have hz0 : 0 < (n : Int) := by omega
    have hz0N : 0 < n := by omega
    have hzd : decide (0 < n) = true := by simp; omega
    have hkt : n - 1 < t.length := by have := HTL.out; omega
    have hcz := HC.out (n - 1) _ (List.getElem?_eq_getElem hkt)
    rw [show k + (n - 1 + 1) = k + n by omega] at hcz
    have hne : t[n - 1] ≠ 0 := fun e => HZ.out hz0N (by rw [List.getLast?_eq_getElem?, HTL.out, List.getElem?_eq_getElem hkt, e])
    have hn0 : ((t[n - 1].toNat : Int) == 0) = false := by simp; exact fun e => hne (UInt8.toNat_inj.1 (by simpa using e))
    generalize t[n - 1] = lu at *
    have hkc : (k : Int) + (n : Int) < (R : Int) := by omega
    have hkc0 : (0 : Int) ≤ (k : Int) + (n : Int) := by omega
    have hkcN : ((k : Int) + (n : Int)).toNat = k + n := by omega
    have hkw : IntKind.i64.wrap ((k : Int) + (n : Int)) = (k : Int) + (n : Int) := by rw [IntKind.wrap_i64]; omega
    clear hne hkt
    go_enter Try.func60, Try.ntmps60
    go_wp2_with (go_at_call 65; refine (HL.out _ (grown_refl _ _)).mono ?_; rintro e wx ⟨rfl, m, rfl⟩)
    go_quiet (fail)
    go_wp2_with (go_at_call 65; refine (HL.out _ ?_).mono ?_; (repeat (first | exact grown_drewN _ _ none | exact grown_refl _ _ | refine grown_trans ?_ (grown_drewN _ _ none))); rintro e wx ⟨rfl, m2, rfl⟩)
    go_quiet (fail)
    go_wp2
    go_loopg [4, 5] n (fun g xv iv W => ∃ i x : Nat, i ≤ n ∧ g = i ∧ iv = .int .i64 i ∧ xv = .int .i64 x ∧ Hid (x = val (t.drop i)) ∧ Hid (w.grownBy W none))
    case atStart => exact ⟨n, 0, Nat.le_refl _, rfl, rfl, rfl, hid_mk (by rw [← HTL.out, List.drop_length]; rfl), hid_mk (by (repeat (first | exact grown_drewN _ _ none | exact grown_refl _ _ | refine grown_trans ?_ (grown_drewN _ _ none))))⟩
    case round =>
      obtain ⟨i, x, hi, hgk, rfl, rfl, HX, HG⟩ := hrel
      obtain ⟨d0, d1, d2, df⟩ := rr_cells ((HG.out.block b (Array.getElem?_eq_some_iff.1 HBK.out).1 (by simp)).trans HBK.out)
      have df1 := df 1
      clear df c0 c1 c2 f1 hcc
      by_cases hi0 : i = 0
      · subst hi0
        have HE := hid_mk (show x = val t by rw [HX.out, List.drop_zero])
        have i1 : ¬ ((1 : Int) ≤ 0) := by omega
        clear HX
        go_wp2
        go_ret
        rw [HE.out]
        exact FIN.out _ HG.out
      · have hi1 : (1 : Int) ≤ (i : Int) := by omega
        have hi1N : 1 ≤ i := by omega
        have hit : i - 1 < t.length := by have := HTL.out; omega
        have hcell := HG.out.cell (HC.out (i - 1) _ (List.getElem?_eq_getElem hit)) (by simp)
        rw [show k + (i - 1 + 1) = k + i by omega] at hcell
        have hv := val_drop t (i - 1) hit
        rw [show i - 1 + 1 = i by omega, ← HX.out] at hv
        have hnl : x < 1099511627776 := by rw [HX.out]; exact val_drop_lt t i (by have := HTL.out; omega) (by omega)
        generalize t[i - 1] = u at *
        have ho := or_low x u hnl ((x : Int) * 256) u.toNat (by omega) rfl
        have hsh := wrap_id ((x : Int) * 256) (by omega) (by omega)
        have HV2 := hid_mk hv
        have hu := u.toNat_lt
        have hki : (k : Int) + (i : Int) < (R : Int) := by omega
        have hki0 : (0 : Int) ≤ (k : Int) + (i : Int) := by omega
        have hkiN : ((k : Int) + (i : Int)).toNat = k + i := by omega
        have hkiw := wrap_id ((k : Int) + (i : Int)) (by omega) (by omega)
        have huw := wrap_id (u.toNat : Int) (by omega) (by omega)
        clear HX hv hit
        go_wp2
        go_quiet (fail)
        go_wp2
        go_roundg (i - 1)
        case measure => omega
        case rel => exact ⟨i - 1, x * 256 + u.toNat, by omega, rfl, by congr 1; omega, by first | rfl | (congr 1; omega) | congr 1, hid_mk (by rw [HV2.out]; omega), hid_mk (grown_trans HG.out (grown_drewN _ _ none))⟩

theorem rnum_any (M N b : Nat) (s : St) (w : World) (h : Rr w M N b s) : Calls Try.prog 60 #[.pointer (some ⟨b, 0, none⟩)] w (NumPost M N b s w) := by
  by_cases he : s.e = 0
  · obtain ⟨rest, e⟩ := s
    simp only at he
    subst he
    match rest with
    | [] => exact rnum_end M N b w h
    | c :: r =>
      by_cases h6 : 6 < c.toNat
      · exact rnum_form M N b c r w h h6
      · by_cases hs : r.length < c.toNat
        · exact rnum_short M N b c r w h h6 hs
        · by_cases hz : 0 < c.toNat ∧ (r.take c.toNat).getLast? = some 0
          · exact rnum_zero M N b c r w h h6 hs hz
          · exact rnum_ok M N b c r w h h6 hs hz
  · exact rnum_err M N b s w h he

end Go.Proofs.Ytckblgpalbedhaa.W
