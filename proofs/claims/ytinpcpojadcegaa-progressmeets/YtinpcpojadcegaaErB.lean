/- The document's: Last, TermOf, First, From. -/
import Derived.Test.YtinpcpojadcegaaErA
namespace Go.Proofs.Ytinpcpojadcegaa.W
open Go.RowKit Go.Maps
set_option linter.unusedVariables false
set_option linter.unusedSimpArgs false
set_option maxRecDepth 100000
attribute [local go_sem] Oper.semAt_some

theorem termA_last {b t : Int} {es : List Ent} : termA b t es (b + es.length) = endT t es := by
  unfold termA endT
  cases hl : es.getLast? with
  | none =>
    have h0 : es = [] := List.getLast?_eq_none_iff.1 hl
    subst h0
    simp
  | some x =>
    rw [List.getLast?_eq_getElem?] at hl
    have hlt := (List.getElem?_eq_some_iff.1 hl).1
    rw [if_neg (by omega), show (b + (es.length : Int) - b - 1).toNat = es.length - 1 by omega, hl]

set_option maxHeartbeats 4000000 in
theorem rLast_any (b t : Int) (lv : Value) (es : List Ent) (w : World) (h : EntsR w lv es) (hlen : es.length ≤ 10000000000000) : Calls Try.prog 28 #[viewV b t lv] w fun e w' => e = .returned (.tuple #[.int .i64 (if rightV b t es = true then endI b es else 0), .int .i64 (if rightV b t es = true then endT t es else 0)]) ∧ w.grownBy w' none := by
  obtain ⟨a, c, rfl⟩ := h.len
  have HE := hid_mk h
  clear h
  have hV : viewV b t (.slice a es.length c) = .agg #[.int .i64 b, .int .i64 t, .slice a es.length c] := rfl
  have HV := hid_mk hV
  rw [hV]
  clear hV
  have HA := hid_mk (And.intro (RB.new w b t (.slice a es.length c)) (World.grownBy_alloc w (.cells #[.int .i64 b, .int .i64 t, .slice a es.length c] 24) none))
  cases hr : rightV b t es with
  | false =>
    have HR := hid_mk hr
    clear hr
    go_enter Try.func28, Try.ntmps28
    go_upto_region 1 with fail
    generalize w.alloc (.cells #[.int .i64 b, .int .i64 t, .slice a es.length c] 24) = w1 at *
    obtain ⟨v0, v1, v2⟩ := HA.out.1.cells
    go_wp2_with fail
    rw [← HV.out]
    refine (rrightV_any b t _ es w1 (HE.out.kept HA.out.2) hlen).mono ?_
    rintro e w2 ⟨rfl, hg⟩
    rw [HR.out, HV.out]
    have HG := hid_mk (grown_trans HA.out.2 hg)
    clear hg v0 v1 v2
    go_wp2
    go_ret2
    exact ⟨rfl, HG.out⟩
  | true =>
    have HR := hid_mk hr
    obtain ⟨hb0, hb1, _, _, hl1, hgo⟩ := rightV_spec hr
    have HL := hid_mk (And.intro (endI_of hgo) (termA_last (b := b) (t := t) (es := es)))
    clear hr hgo
    go_enter Try.func28, Try.ntmps28
    go_upto_region 1 with fail
    generalize w.alloc (.cells #[.int .i64 b, .int .i64 t, .slice a es.length c] 24) = w1 at *
    obtain ⟨v0, v1, v2⟩ := HA.out.1.cells
    go_wp2_with fail
    rw [← HV.out]
    refine (rrightV_any b t _ es w1 (HE.out.kept HA.out.2) hlen).mono ?_
    rintro e w2 ⟨rfl, hg⟩
    rw [HR.out, HV.out]
    have HG := hid_mk (And.intro (grown_trans HA.out.2 hg) (HA.out.1.kept hg (by simp)))
    clear hg v0 v1 v2
    go_upto_region 3 with fail
    have HCL : ∀ W, w2.grownBy W none → W.cell? ⟨w.heap.size, 0, none⟩ = some (.int .i64 b) ∧ W.cell? ⟨w.heap.size, 1, none⟩ = some (.int .i64 t) ∧ W.cell? ⟨w.heap.size, 2, none⟩ = some (.slice a es.length c) := fun W hW => (HG.out.2.kept hW (by simp)).cells
    refine wp_region_mix [(0, true), (2, true), (3, true), (1, false), (4, false), (5, false), (6, true), (7, true)] (at0 w2 (fun W => w2.grownBy W none)) (by kernel_rfl) (by kernel_rfl) rfl (by kernel_rfl) (shut_at0 (fun m => grown_drewN _ m none)) ⟨1, rfl⟩ ?_
    repeat (refine mix_rd1 rfl rfl (fun K hK => ?_); apply Exists.intro; refine ⟨fun W hW => ?_, ?_⟩; (obtain ⟨d0, d1, d2⟩ := HCL W hW; go_simp; rfl); (go_simp; refine hK _ _ ?_; clear hK K))
    refine mix_call rfl rfl 37 #[viewV b t (.slice a es.length c)] (fun W => by rw [HV.out]; go_simp) ?_
    rintro W ⟨mA, rfl⟩
    refine (rlast_any b t _ es (w2.drewN mA) (HE.out.kept (grown_trans HG.out.1 (grown_drewN _ mA none))) HR.out).mono ?_
    rintro e w3 ⟨rfl, hg⟩
    have G3 := hid_mk (show w2.grownBy w3 none from grown_trans (grown_drewN _ mA none) hg)
    clear hg
    refine ⟨_, rfl, at0 w3 (fun W => w2.grownBy W none), ⟨0, rfl⟩, shut_at0 (all_kept G3.out), fun _ h => h, ?_⟩
    refine mix_call rfl rfl 37 #[viewV b t (.slice a es.length c)] (fun W => by rw [HV.out]; go_simp) ?_
    rintro W ⟨mB, rfl⟩
    refine (rlast_any b t _ es (w3.drewN mB) (HE.out.kept (grown_trans HG.out.1 (grown_trans G3.out (grown_drewN _ mB none)))) HR.out).mono ?_
    rintro e w4 ⟨rfl, hg⟩
    have G4 := hid_mk (show w2.grownBy w4 none from grown_trans G3.out (grown_trans (grown_drewN _ mB none) hg))
    clear hg
    refine ⟨_, rfl, at0 w4 (fun W => w2.grownBy W none), ⟨0, rfl⟩, shut_at0 (all_kept G4.out), fun _ h => h, ?_⟩
    refine mix_call rfl rfl 38 #[viewV b t (.slice a es.length c), .int .i64 (b + es.length)] (fun W => by rw [HV.out]; go_simp) ?_
    rintro W ⟨mC, rfl⟩
    refine (rat_any b t _ es (b + es.length) (w4.drewN mC) (HE.out.kept (grown_trans HG.out.1 (grown_trans G4.out (grown_drewN _ mC none)))) HR.out (by omega)).mono ?_
    rintro e w5 ⟨rfl, hg⟩
    have G5 := hid_mk (show w2.grownBy w5 none from grown_trans G4.out (grown_trans (grown_drewN _ mC none) hg))
    clear hg
    rw [HL.out.2]
    obtain ⟨T0, hT0⟩ : ∃ T0, T0 = endT t es := ⟨_, rfl⟩
    rw [← hT0]
    have HT0 := hid_mk hT0
    clear hT0
    refine ⟨_, rfl, at0 w5 (fun W => w2.grownBy W none), ⟨0, rfl⟩, shut_at0 (all_kept G5.out), fun _ h => h, ?_⟩
    repeat (refine mix_rd1 rfl rfl (fun K hK => ?_); apply Exists.intro; refine ⟨fun W hW => ?_, ?_⟩; (go_simp; rfl); (go_simp; refine hK _ _ ?_; clear hK K))
    refine mix_nil ?_
    rintro W ⟨mD, rfl⟩
    go_wp2_with fail
    go_ret2
    exact ⟨by rw [HL.out.1, HT0.out]; rfl, grown_trans HG.out.1 (grown_trans G5.out (grown_drewN _ mD none))⟩
set_option maxHeartbeats 4000000 in
theorem rTermOf_any (b t : Int) (lv : Value) (es : List Ent) (i : Int) (w : World) (h : EntsR w lv es) (hlen : es.length ≤ 10000000000000) : Calls Try.prog 19 #[viewV b t lv, .int .i64 i] w fun e w' => e = .returned (.tuple #[.int .i64 (termR b t es i).1, .int .i64 (termR b t es i).2]) ∧ w.grownBy w' none := by
  obtain ⟨a, c, rfl⟩ := h.len
  have HE := hid_mk h
  clear h
  have hV : viewV b t (.slice a es.length c) = .agg #[.int .i64 b, .int .i64 t, .slice a es.length c] := rfl
  have HV := hid_mk hV
  rw [hV]
  clear hV
  have HA := hid_mk (And.intro (RB.new w b t (.slice a es.length c)) (World.grownBy_alloc w (.cells #[.int .i64 b, .int .i64 t, .slice a es.length c] 24) none))
  cases hr : rightV b t es with
  | false =>
    have HR := hid_mk (And.intro hr (termR_bad (i := i) hr))
    clear hr
    go_enter Try.func19, Try.ntmps19
    go_upto_region 1 with fail
    generalize w.alloc (.cells #[.int .i64 b, .int .i64 t, .slice a es.length c] 24) = w1 at *
    obtain ⟨v0, v1, v2⟩ := HA.out.1.cells
    go_wp2_with fail
    rw [← HV.out]
    refine (rrightV_any b t _ es w1 (HE.out.kept HA.out.2) hlen).mono ?_
    rintro e w2 ⟨rfl, hg⟩
    rw [HR.out.1, HV.out]
    have HG := hid_mk (grown_trans HA.out.2 hg)
    clear hg v0 v1 v2
    go_wp2
    go_ret2
    exact ⟨by rw [HR.out.2]; rfl, HG.out⟩
  | true =>
    have hsp := rightV_spec hr
    have HR := hid_mk hr
    have hb1 := hsp.1
    have hb2 := hsp.2.1
    have hl2 := hsp.2.2.2.2.1
    clear hr hsp
    go_enter Try.func19, Try.ntmps19
    go_upto_region 1 with fail
    generalize w.alloc (.cells #[.int .i64 b, .int .i64 t, .slice a es.length c] 24) = w1 at *
    obtain ⟨v0, v1, v2⟩ := HA.out.1.cells
    go_wp2_with fail
    rw [← HV.out]
    refine (rrightV_any b t _ es w1 (HE.out.kept HA.out.2) hlen).mono ?_
    rintro e w2 ⟨rfl, hg⟩
    rw [HR.out, HV.out]
    have HG := hid_mk (And.intro (grown_trans HA.out.2 hg) (HA.out.1.kept hg (by simp)))
    clear hg v0 v1 v2
    obtain ⟨v0, v1, v2⟩ := HG.out.2.cells
    by_cases hi : i < b
    · have HT := hid_mk (termR_low HR.out hi)
      go_wp2
      go_ret2
      exact ⟨by rw [HT.out]; rfl, HG.out.1⟩
    · go_wp2_with fail
      rw [← HV.out]
      refine (rlast_any b t _ es w2 (HE.out.kept HG.out.1) HR.out).mono ?_
      rintro e w3 ⟨rfl, hg⟩
      rw [HV.out]
      have HG3 := hid_mk (And.intro (grown_trans HG.out.1 hg) (HG.out.2.kept hg (by simp)))
      clear hg v0 v1 v2
      obtain ⟨v0, v1, v2⟩ := HG3.out.2.cells
      by_cases hi2 : b + es.length < i
      · have HT := hid_mk (termR_high HR.out hi2)
        go_wp2
        go_ret2
        exact ⟨by rw [HT.out]; rfl, HG3.out.1⟩
      · have HT := hid_mk (termR_in HR.out (show b ≤ i by omega) (show i ≤ b + es.length by omega))
        go_wp2_with fail
        rw [← HV.out]
        refine (rat_any b t _ es i w3 (HE.out.kept HG3.out.1) HR.out (by omega)).mono ?_
        rintro e w4 ⟨rfl, hg⟩
        have HG4 := hid_mk (grown_trans HG3.out.1 hg)
        clear hg v0 v1 v2
        rw [HV.out]
        obtain ⟨A0, hA0⟩ : ∃ A0, A0 = termA b t es i := ⟨_, rfl⟩
        rw [← hA0]
        have HA0 := hid_mk hA0
        clear hA0
        go_wp2
        go_ret2
        exact ⟨by rw [HT.out, HA0.out]; rfl, HG4.out⟩
end Go.Proofs.Ytinpcpojadcegaa.W
