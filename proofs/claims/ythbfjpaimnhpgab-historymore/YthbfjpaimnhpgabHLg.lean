/- history: Legal. -/
import Derived.Test.YthbfjpaimnhpgabHUn
namespace Go.Proofs.Ythbfjpaimnhpgab
open Go.RowKit Go.Maps
set_option linter.unusedVariables false
set_option linter.unusedSimpArgs false
set_option maxRecDepth 100000

theorem retB_false {e : Ending} {p : Prop} (h : RetB e p) (hp : ¬ p) : e = .returned (.bool false) := by
  obtain ⟨b, rfl, hb⟩ := h
  cases b
  · rfl
  · exact absurd (hb.1 rfl) hp
theorem retB_true {e : Ending} {p : Prop} (h : RetB e p) (hp : p) : e = .returned (.bool true) := by
  obtain ⟨b, rfl, hb⟩ := h
  rw [hb.2 hp]
theorem lateI_some {l : List Ca} {i : Nat} (h : lateG l = some i) : lateI l = i := by unfold lateI; rw [h]
theorem lateI_none {l : List Ca} (h : lateG l = none) : lateI l = -1 := by unfold lateI; rw [h]
theorem nodup_le : ∀ (a b : List Nat), a.Nodup → (∀ x ∈ a, x ∈ b) → a.length ≤ b.length
  | [], b, _, _ => by simp
  | y :: a, b, hn, hs => by
    rw [List.nodup_cons] at hn
    have hy := hs y (by simp)
    have h := nodup_le a (b.erase y) hn.2 (fun z hz => (List.mem_erase_of_ne (fun (e : z = y) => hn.1 (by rw [← e]; exact hz))).2 (hs z (by simp [hz])))
    rw [List.length_erase_of_mem hy] at h
    have := List.length_pos_of_mem hy
    simp only [List.length_cons]
    omega
theorem OrdP.len {l : List Ca} {o : List Int} (h : OrdP l o) : o.length ≤ l.length := by
  have h1 : (o.map Int.toNat).Nodup := by
    have h2 := h.2
    have h3 := fun k hk => (h.1 k hk).1
    unfold List.Nodup at h2 ⊢
    rw [List.pairwise_map]
    exact h2.imp_of_mem (fun ha hb hne e => hne (by have := h3 _ ha; have := h3 _ hb; omega))
  have := nodup_le (o.map Int.toNat) (List.range l.length) h1 (fun x hx => by
    obtain ⟨k, hk, rfl⟩ := List.mem_map.1 hx
    have := h.1 k hk
    exact List.mem_range.2 (by omega))
  simpa using this
/-- What Legal answers. -/
def legV (p : Nat × Int) : Value := .tuple #[.int .i64 (p.1 : Int), .int .i64 p.2]
set_option maxHeartbeats 4000000 in
theorem legal_any {w : World} {v u : Value} {L : List CE} {o : List Int} (h : CsR w v L) (hl : L.length ≤ 1099511627776) (hR : ∀ x ∈ L, x.R.length ≤ 5864062014805) (ho : IntsR w u o) (hol : o.length ≤ 17592186044416) :
    Calls Try.prog 4 #[v, u] w fun e w' => e = .returned (legV (legalG (gs L) o)) ∧ w.grownBy w' none := by
  have HL := hid_mk (And.intro h (And.intro hR (And.intro ho hol)))
  have hgl : (gs L).length = L.length := by simp [gs]
  have HR := hid_mk (right_any h hl)
  obtain ⟨va, vc, rfl⟩ := h.len
  obtain ⟨ua, uc, rfl⟩ := ho.len
  clear h hR ho
  by_cases hr : RightP (gs L)
  · have hl2 : L.length ≤ 2000 := by have := hr.1; omega
    cases hs : someG (gs L).length o []
    · have HF := hid_mk (show legalG (gs L) o = (0, 1) from by unfold legalG; rw [if_pos (fun e => by rw [hs] at e; cases e.2)])
      have HRr := hid_mk hr
      have HS := hid_mk hs
      clear hr hs
      go_enter Try.func4, Try.ntmps4
      go_wp2_with (first | (go_at_call 9; refine HR.out.mono ?_; rintro e w1 ⟨hb, hg⟩; obtain rfl := retB_true hb HRr.out; clear hb; replace hg := hid_mk hg) | (go_at_call 10; refine (someOf_any (HL.out.2.2.1.kept hg.out) hol L.length hl2).mono ?_; rintro e w2 ⟨he, hg2⟩; rw [← hgl, HS.out] at he; subst he; replace hg2 := hid_mk (grown_trans hg.out hg2)))
      refine bodyPost_ret (results_tmp2 rfl _ _ _) rfl ?_
      exact ⟨by rw [HF.out]; rfl, hg2.out⟩
    · have hin := ord_iff.1 hs
      have hinL : ∀ k ∈ o, 0 ≤ k ∧ k < L.length := by have := hin.1; rwa [hgl] at this
      have hol2 : o.length ≤ 2000 := by have := hin.len; omega
      have HIN := hid_mk (And.intro hinL (And.intro hr hs))
      have hpg : gs (pickC L o) = rowG (gs L) o := pickC_gs hinL
      have hbt : ∀ x ∈ gs (pickC L o), x.b < 1099511627776 := fun x hx => by
        obtain ⟨y, hy, rfl⟩ := List.mem_map.1 hx
        exact (aloneG_time (hr.2.1 _ (List.mem_map.2 ⟨y, pickC_mem hinL y hy, rfl⟩))).2.1
      have HBT := hid_mk hbt
      have hpl : (pickC L o).length = o.length := by simp [pickC]
      have HLEG := hid_mk (show legalG (gs L) o = (if countG (gs (pickC L o)) < countG (gs L) then ((o.length, 3) : Nat × Int) else match lateG (gs (pickC L o)) with
          | some i => ((i, 51) : Nat × Int)
          | none => match untrueG ⟨0, []⟩ (gs (pickC L o)) with
            | some i => ((i, 51) : Nat × Int)
            | none => ((0, 0) : Nat × Int)) from by
        rw [hpg]; unfold legalG; rw [if_neg (fun e => e ⟨hr, hs⟩)]; rfl)
      clear hin hinL hr hs hbt hpg
      have c1 : countG (gs L) ≤ 2000 := by
        have : countG (gs L) ≤ (gs L).length := List.length_filter_le _ _
        omega
      have c2 : countG (gs (pickC L o)) ≤ 2000 := by
        have : countG (gs (pickC L o)) ≤ (gs (pickC L o)).length := List.length_filter_le _ _
        have h2 : (gs (pickC L o)).length = o.length := by simp [gs, hpl]
        omega
      have HC12 := hid_mk (And.intro c1 c2)
      have HA1 := hid_mk (fun (W : World) (hW : w.grownBy W none) => answered_any (HL.out.1.kept hW) hl)
      generalize hn1 : countG (gs L) = n1 at *
      generalize hn2 : countG (gs (pickC L o)) = n2 at *
      have HN2 := hid_mk hn2
      clear hn1 hn2
      go_enter Try.func4, Try.ntmps4
      go_upto_region 3 with (first | (go_at_call 9; refine HR.out.mono ?_; rintro e w1 ⟨hb, hg⟩; obtain rfl := retB_true hb HIN.out.2.1; clear hb; replace hg := hid_mk hg) | (go_at_call 10; refine (someOf_any (HL.out.2.2.1.kept hg.out) hol L.length hl2).mono ?_; rintro e w2 ⟨he, hg2⟩; rw [← hgl, HIN.out.2.2] at he; subst he; replace hg2 := hid_mk (grown_trans hg.out hg2)))
      clear hg
      go_upto_region 4 with (go_at_call 11; refine (inOrder_any (HL.out.1.kept hg2.out) hl2 (HL.out.2.2.1.kept hg2.out) hol2 HIN.out.1).mono ?_; rintro e w3 ⟨v3, rfl, ho3, hg3⟩; have H3 := hid_mk (show CsR w3 v3 (pickC L o) ∧ w.grownBy w3 none from ⟨ho3.red (fun x hx => (HL.out.1.ins x (pickC_mem HIN.out.1 x hx)).kept (grown_trans hg2.out hg3)), grown_trans hg2.out hg3⟩); clear ho3 hg3)
      clear hg2
      obtain ⟨va3, vc3, rfl⟩ := H3.out.1.len
      have HA2 := answered_any H3.out.1 (by rw [hpl]; omega)
      have HT := fun (W : World) (hW : w3.grownBy W none) => late_any (H3.out.1.kept hW) (by rw [hpl]; omega) HBT.out
      have HU := fun (W : World) (hW : w3.grownBy W none) => untrue_any (H3.out.1.kept hW) (by rw [hpl]; omega) (fun x hx => HL.out.2.1 x (pickC_mem HIN.out.1 x hx))
      rw [hpl] at *
      rw [HN2.out] at HA2
      replace HA2 := hid_mk HA2
      replace HT := hid_mk HT
      replace HU := hid_mk HU
      have HP := hid_mk hpl
      clear hpl
      obtain ⟨Rw, hRw⟩ : ∃ Rw, Rw = gs (pickC L o) := ⟨_, rfl⟩
      rw [← hRw] at HLEG HT HN2 HU
      go_wp2_with fail
      refine HA2.out.mono ?_
      rintro e w4 ⟨rfl, hg4⟩
      replace hg4 := hid_mk hg4
      go_wp2_with fail
      refine (HA1.out _ (grown_trans H3.out.2 hg4.out)).mono ?_
      rintro e w5 ⟨rfl, hg5⟩
      replace hg5 := hid_mk (grown_trans hg4.out hg5)
      clear HA1 HA2
      by_cases hlt : n2 < n1
      · have HF := hid_mk (show legalG (gs L) o = (o.length, 3) from by rw [HLEG.out, if_pos hlt])
        go_wp2_with fail
        refine bodyPost_ret (results_tmp2 rfl _ _ _) rfl ?_
        exact ⟨by rw [HF.out]; rfl, grown_trans H3.out.2 hg5.out⟩
      · rw [if_neg hlt] at HLEG
        go_wp2_with fail
        refine (HT.out _ hg5.out).mono ?_
        rintro e w6 ⟨rfl, hg6⟩
        replace hg6 := hid_mk (grown_trans hg5.out hg6)
        clear HT hlt c1 c2 HC12
        cases hla : lateG Rw with
        | some i =>
          have HF := hid_mk (show legalG (gs L) o = (i, 51) from by have := HLEG.out; rw [hla] at this; exact this)
          rw [lateI_some hla]
          clear hla HLEG HU
          go_wp2_with fail
          refine bodyPost_ret (results_tmp2 rfl _ _ _) rfl ?_
          exact ⟨by rw [HF.out]; rfl, grown_trans H3.out.2 hg6.out⟩
        | none =>
          have HF := hid_mk (show legalG (gs L) o = (match untrueG ⟨0, []⟩ Rw with | some i => ((i, 51) : Nat × Int) | none => ((0, 0) : Nat × Int)) from by have := HLEG.out; rw [hla] at this; exact this)
          rw [lateI_none hla]
          clear hla HLEG
          go_wp2_with fail
          refine (HU.out _ hg6.out).mono ?_
          rintro e w7 ⟨rfl, hg7⟩
          replace hg7 := hid_mk (grown_trans hg6.out hg7)
          clear HU
          cases hun : untrueG ⟨0, []⟩ Rw with
          | some i =>
            rw [hun] at HF
            rw [untrueI_some hun]
            clear hun
            go_wp2_with fail
            refine bodyPost_ret (results_tmp2 rfl _ _ _) rfl ?_
            exact ⟨by rw [HF.out]; rfl, grown_trans H3.out.2 hg7.out⟩
          | none =>
            rw [hun] at HF
            rw [untrueI_none hun]
            clear hun
            go_wp2_with fail
            refine bodyPost_ret (results_tmp2 rfl _ _ _) rfl ?_
            exact ⟨by rw [HF.out]; rfl, grown_trans H3.out.2 hg7.out⟩
  · have HF := hid_mk (show legalG (gs L) o = (0, 1) from by unfold legalG; rw [if_pos (fun e => hr e.1)])
    have HRr := hid_mk hr
    clear hr
    go_enter Try.func4, Try.ntmps4
    go_wp2_with (first | (go_at_call 9; refine HR.out.mono ?_; rintro e w1 ⟨hb, hg⟩; obtain rfl := retB_false hb HRr.out; clear hb; replace hg := hid_mk hg))
    refine bodyPost_ret (results_tmp2 rfl _ _ _) rfl ?_
    exact ⟨by rw [HF.out]; rfl, hg.out⟩
end Go.Proofs.Ythbfjpaimnhpgab
