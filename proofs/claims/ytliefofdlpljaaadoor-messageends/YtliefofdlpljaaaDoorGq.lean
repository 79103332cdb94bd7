/- What is got and put again: no program here. -/
import Derived.Test.YtliefofdlpljaaaDoorKf
namespace Go.Proofs.YtliefofdlpljaaaDoor
set_option linter.unusedVariables false
set_option linter.unusedSimpArgs false

theorem gOk_put {m : Msg} (h : rightM m = true) : gOk (msgB m) = true ∧ gM (msgB m) = m := by
  have hp := getM_put h []
  rw [List.append_nil] at hp
  obtain ⟨h1, h2, h3, h4, h5⟩ := hp
  refine ⟨?_, h1⟩
  have hc : chk m = true := by unfold rightM at h; simp only [Bool.and_eq_true] at h; exact h.1
  unfold gOk
  rw [h1, h2, hc]
  simp only [Bool.and_eq_true, Bool.or_eq_true, decide_eq_true_eq]
  refine ⟨⟨⟨⟨h3, ?_⟩, ?_⟩, rfl⟩, trivial⟩
  · by_cases hk : gK (msgB m) = 3
    · exact .inr (h4 hk).1
    · exact .inl hk
  · by_cases hk : gK (msgB m) = 5
    · exact .inr (h5 hk)
    · exact .inl hk

theorem nums_gM (b : List UInt8) : (nums (gM b)).map Int.toNat = (gN b).1 := by
  have hl : (gN b).1.length = 8 := by unfold gN; exact readNs_len 8 _
  have := list8 _ hl
  unfold nums gM
  simp only [List.map_cons, List.map_nil, Int.toNat_natCast]
  exact this
theorem yes_gM {y : Nat} (h : y ≤ 1) : yesN (decide (y = 1)) = y := by
  unfold yesN
  by_cases h1 : y = 1
  · simp [h1]
  · have : y = 0 := by omega
    simp [this]
theorem back_core (b : List UInt8) (nl : List Nat × St) (yp cp : Nat × St) (ep : List (List UInt8) × St) (sp dp : List UInt8 × St) (en : St) (kk : Nat) (mm : Msg) (hN : readNs 8 ⟨b, 0⟩ = nl) (hY : readN nl.2 = yp) (hC : readN yp.2 = cp) (hE : rdBs cp.1 cp.2 = ep) (hS : readB yp.2 = sp) (hD : readB sp.2 = dp)
    (hen : en = if kk = 3 then ep.2 else if kk = 5 then dp.2 else yp.2) (hnums : (nums mm).map Int.toNat = nl.1) (hyes : mm.yes = decide (yp.1 = 1)) (hkind : mm.kind = (kk : Int)) (hents : mm.ents = if kk = 3 then ep.1.map entR else []) (hsrv : mm.srv = if kk = 5 then getL sp.1 else []) (hdat : mm.data = if kk = 5 then dp.1 else [])
    (hy : yp.1 ≤ 1) (he : ¬ kk = 3 ∨ ep.1.all entOk = true) (hs : ¬ kk = 5 ∨ getOk sp.1 = true) (hend : endE en = 0) (hc : chk mm = true) : rightM mm = true ∧ msgB mm = b := by
  obtain ⟨ee, er⟩ := endE_ok hend
  have start : yp.2.e = 0 → b = numsB nl.1 ++ (numB yp.1 ++ yp.2.rest) := fun h0 => by
    have r1 := @readN_get nl.2
    rw [hY] at r1
    obtain ⟨g1, g2, _⟩ := r1 h0
    have r2 := @readNs_get 8 ⟨b, 0⟩
    rw [hN] at r2
    obtain ⟨_, g4, _⟩ := r2 g1
    have g5 : b = numsB nl.1 ++ nl.2.rest := g4
    rw [g2] at g5
    exact g5
  have hm := msgB_split mm
  rw [hnums, hyes, yes_gM hy] at hm
  by_cases h3 : kk = 3
  · subst h3
    have hall := he.resolve_left (fun hh => hh rfl)
    rw [if_pos rfl] at hen hents
    rw [if_neg (by omega)] at hsrv hdat
    subst hen
    have r1 := @rdBs_get cp.1 cp.2
    rw [hE] at r1
    obtain ⟨q1, q2⟩ := r1 ee
    have r2 := @readN_get yp.2
    rw [hC] at r2
    obtain ⟨q3, q4, _⟩ := r2 q1
    have hb := start q3
    have hlen : mm.ents.length = cp.1 := by rw [hents, List.length_map, ← hE]; exact rdBs_len _ _
    have hback : (ep.1.map entR).map entB = ep.1 := by
      rw [List.map_map]
      conv => rhs; rw [← List.map_id ep.1]
      exact List.map_congr_left (fun d hd => (entOk_get (List.all_eq_true.1 hall d hd)).2)
    refine ⟨?_, ?_⟩
    · unfold rightM wrOk
      rw [hc, hents]
      simp only [Bool.true_and, Bool.and_eq_true, Bool.or_eq_true, decide_eq_true_eq, List.all_eq_true]
      refine ⟨fun x hx => ?_, .inl (by rw [hkind]; omega)⟩
      obtain ⟨d, hd, rfl⟩ := List.mem_map.1 hx
      exact (entOk_get (List.all_eq_true.1 hall d hd)).1
    · rw [hm, if_pos (by rw [hkind]; rfl), if_neg (by rw [hkind]; omega), hlen, hents, hback, hb, q4, q2, er]
      simp
  · rw [if_neg h3] at hen hents
    by_cases h5 : kk = 5
    · subst h5
      have hgo := hs.resolve_left (fun hh => hh rfl)
      rw [if_pos rfl] at hen hsrv hdat
      subst hen
      have r1 := @readB_get sp.2
      rw [hD] at r1
      obtain ⟨q1, q2, _⟩ := r1 ee
      have r2 := @readB_get yp.2
      rw [hS] at r2
      obtain ⟨q3, q4, _⟩ := r2 q1
      have hb := start q3
      refine ⟨?_, ?_⟩
      · unfold rightM wrOk
        rw [hc, hents, hsrv, (getOk_get hgo).1]
        simp
      · rw [hm, if_neg (by rw [hkind]; omega), if_pos (by rw [hkind]; rfl), hsrv, hdat, (getOk_get hgo).2, hb, q4, q2, er]
        simp
    · rw [if_neg h5] at hen
      subst hen
      have hb := start ee
      refine ⟨?_, ?_⟩
      · unfold rightM wrOk
        rw [hc, hents]
        simp only [Bool.true_and, Bool.and_eq_true, Bool.or_eq_true, decide_eq_true_eq, List.all_eq_true]
        exact ⟨fun x hx => by simp at hx, .inl (by rw [hkind]; omega)⟩
      · rw [hm, if_neg (by rw [hkind]; omega), if_neg (by rw [hkind]; omega), hb, er]
        simp
theorem gM_kind (b : List UInt8) : (gM b).kind = (gK b : Int) := by simp only [gM, gK]
theorem gM_yes (b : List UInt8) : (gM b).yes = decide ((gY b).1 = 1) := by simp only [gM]
theorem getM_get {b : List UInt8} (h : gOk b = true) : rightM (gM b) = true ∧ msgB (gM b) = b := by
  obtain ⟨p1, p2, p3, p4⟩ := gM_parts b (gK b) rfl
  rw [gOk_of, rdOk_eq b (gK b) rfl] at h
  simp only [Bool.and_eq_true, Bool.or_eq_true, decide_eq_true_eq] at h
  obtain ⟨⟨⟨⟨hy, he⟩, hs⟩, hend⟩, hc⟩ := h
  exact back_core b (gN b) (gY b) (gC b) (gE b) (gS b) (gD b) (gEnd b) (gK b) (gM b) (gN_eq b) (gY_eq b) (gC_eq b) (gE_eq b) (gS_eq b) (gD_eq b) p4 (nums_gM b) (gM_yes b) (gM_kind b) p1 p2 p3 hy he hs hend hc

end Go.Proofs.YtliefofdlpljaaaDoor
