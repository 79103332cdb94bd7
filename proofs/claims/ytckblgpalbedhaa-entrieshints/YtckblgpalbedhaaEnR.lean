/- EntriesHints. -/
import Derived.Test.YtckblgpalbedhaaEnQ
namespace Go.Proofs.Ytckblgpalbedhaa.W
open Go.RowKit Go.Maps
set_option linter.unusedVariables false
set_option linter.unusedSimpArgs false
set_option maxRecDepth 100000
attribute [local go_sem] Oper.semAt_some

/-- The first entry of a term stands at or ahead of each one of it. -/
theorem firstI_le {b t : Int} : ∀ (es : List Ent), goB b t es = true → ∀ (k : Nat) (x : Ent), es[k]? = some x → firstI es x.term ≤ x.index := by
  intro es hgo k x hx
  unfold firstI
  cases hf : es.find? (fun y => y.term == x.term) with
  | none =>
    have := List.find?_eq_none.1 hf x (List.mem_of_getElem? hx)
    simp at this
  | some y =>
    simp only
    obtain ⟨hy, ls, rs, heq, hno⟩ := List.find?_eq_some_iff_append.1 hf
    have hyi : es[ls.length]? = some y := by rw [heq]; simp
    have h1 := (goB_at es hgo _ _ hyi).1
    have h2 := (goB_at es hgo _ _ hx).1
    have hle : ls.length ≤ k := by
      rcases Nat.lt_or_ge k ls.length with hlt | hge
      · have hxa : ls[k]? = some x := by rw [heq, List.getElem?_append_left hlt] at hx; exact hx
        have := hno x (List.mem_of_getElem? hxa)
        simp at this
      · exact hge
    omega
/-- Where the terms rise, the first entry of the base's term can be the first one only. -/
theorem firstI_base {b t : Int} {es : List Ent} (hgo : goB b t es = true) : firstI es t = b + 1 ∨ firstI es t = 0 := by
  cases es with
  | nil => exact .inr rfl
  | cons x r =>
    obtain ⟨h1, h2, h3, h4⟩ := goB_cons hgo
    by_cases hx : x.term = t
    · left
      unfold firstI
      simp [hx, h2]
    · right
      unfold firstI
      have : (x :: r).find? (fun y => y.term == t) = none := by
        rw [List.find?_eq_none]
        intro y hy
        rcases List.mem_cons.1 hy with rfl | hy
        · simpa using hx
        · obtain ⟨k, hk⟩ := List.mem_iff_getElem?.1 hy
          have := (goB_at r h4 k y hk).2.1
          simp
          omega
      rw [this]
theorem hint_bounds {b t : Int} {es : List Ent} {prev term : Int} (hr : rightV b t es = true) (hh : hintZ b t es prev term ≠ 0) : b < hintZ b t es prev term ∧ hintZ b t es prev term ≤ max (min prev (b + es.length + 1)) (b + 1) := by
  obtain ⟨hb0, hb1, ht0, ht1, hl, hgo⟩ := rightV_spec hr
  by_cases h1 : b + es.length < prev
  · rw [hintZ_high h1]
    omega
  · by_cases h2 : prev < b ∨ termA b t es prev = term
    · rw [hintZ_fit h1 h2] at hh; exact absurd rfl hh
    · rw [hintZ_no h1 h2]
      have hpb : b ≤ prev := by have := fun h => h2 (.inl h); omega
      by_cases h3 : prev = b
      · subst h3
        rw [termA_base]
        rcases firstI_base hgo with e | e <;> rw [e] <;> omega
      · have hlt : (prev - b - 1).toNat < es.length := by omega
        obtain ⟨x, hx⟩ : ∃ x, es[(prev - b - 1).toNat]? = some x := ⟨es[(prev - b - 1).toNat], List.getElem?_eq_getElem hlt⟩
        rw [termA_at h3 hx]
        have h4 := firstI_le es hgo _ x hx
        have h5 := (goB_at es hgo _ _ hx).1
        omega
/-- What EntriesHints asks of a Fit. -/
theorem try_hints {b t : Int} {es : List Ent} {prev term : Int} {l : List Ent} (hy : (tryF b t es prev term l).yes = false) (hm : (tryF b t es prev term l).mt ≠ 0) :
    rightV b t es = true ∧ b < (tryF b t es prev term l).mt ∧ (tryF b t es prev term l).mt ≤ max (min prev (b + es.length + 1)) (b + 1) := by
  by_cases h : rightV b t es = true ∧ sendV prev term l = true
  · by_cases hh : hintZ b t es prev term = 0
    · rw [tryF_yes h.1 h.2 hh] at hy; cases hy
    · rw [tryF_hint h.1 h.2 hh] at hm ⊢
      exact ⟨h.1, hint_bounds h.1 hh⟩
  · rw [tryF_no h] at hm; exact absurd rfl hm

set_option maxHeartbeats 8000000 in
theorem hints_any (b t : Int) (lv : Value) (es : List Ent) (prev term : Int) (lv2 : Value) (l : List Ent) (w : World) (h : EntsR w lv es) (h2 : EntsR w lv2 l) (hn : es.length * 48 ≤ 140737488355328) (hn2 : l.length * 48 ≤ 140737488355328) (hb : I64 b) (hp : I64 prev) :
    Calls Try.prog 7 #[viewV b t lv, .int .i64 prev, .int .i64 term, lv2] w fun e w' => e = .returned (.bool true) ∧ w.grownBy w' none := by
  obtain ⟨a, c, rfl⟩ := h.len
  obtain ⟨a2, c2, rfl⟩ := h2.len
  have HE := hid_mk (And.intro h (And.intro h2 (And.intro hb hp)))
  clear h h2 hb hp
  have hV : viewV b t (.slice a es.length c) = .agg #[.int .i64 b, .int .i64 t, .slice a es.length c] := rfl
  have HV := hid_mk hV
  rw [hV]
  clear hV
  have HA := hid_mk (And.intro (RB.new w b t (.slice a es.length c)) (World.grownBy_alloc w (.cells #[.int .i64 b, .int .i64 t, .slice a es.length c] 24) none))
  go_enter Try.func7, Try.ntmps7
  go_upto_region 1 with fail
  generalize w.alloc (.cells #[.int .i64 b, .int .i64 t, .slice a es.length c] 24) = w1 at *
  obtain ⟨v0, v1, v2⟩ := HA.out.1.cells
  go_wp2_with fail
  rw [← HV.out]
  refine (view_any b t _ es w1 (HE.out.1.kept HA.out.2) hn).mono ?_
  rintro e w2 ⟨lv', ps, rfl, heo, hmap⟩
  rw [HV.out]
  obtain ⟨va, vc, hv⟩ := row_shape heo.row
  subst hv
  have hpl : ps.length = es.length := by have := congrArg List.length hmap; simpa using this
  have hrd := heo.reads
  rw [hmap, hpl] at hrd
  rw [hpl]
  have hVn : viewV b t (.slice va es.length vc) = .agg #[.int .i64 b, .int .i64 t, .slice va es.length vc] := rfl
  have HVn := hid_mk hVn
  rw [hVn]
  clear hVn
  have H3 := hid_mk (show EntsR (w2.alloc (.cells #[.int .i64 b, .int .i64 t, .slice va es.length vc] 25)) (.slice va es.length vc) es ∧ VB (w2.alloc (.cells #[.int .i64 b, .int .i64 t, .slice va es.length vc] 25)) w2.heap.size b t (.slice va es.length vc) ∧ w.grownBy (w2.alloc (.cells #[.int .i64 b, .int .i64 t, .slice va es.length vc] 25)) none from
    ⟨hrd.kept (World.grownBy_alloc _ _ none), VB.new _ _ _ _, grown_trans (grown_trans HA.out.2 heo.gr) (World.grownBy_alloc _ _ none)⟩)
  clear heo hmap hpl hrd v0 v1 v2 HA
  go_upto_region 2 with fail
  generalize w2.alloc (.cells #[.int .i64 b, .int .i64 t, .slice va es.length vc] 25) = w3 at *
  obtain ⟨p9, hp9⟩ : ∃ p9, p9 = w2.heap.size := ⟨_, rfl⟩
  rw [← hp9] at H3 ⊢
  clear hp9
  obtain ⟨F0, hF0⟩ : ∃ F0, F0 = tryF b t es prev term l := ⟨_, rfl⟩
  have HF0 := hid_mk hF0
  clear hF0
  have HCL : ∀ W, w3.grownBy W none → W.cell? ⟨p9, 0, none⟩ = some (.int .i64 b) ∧ W.cell? ⟨p9, 1, none⟩ = some (.int .i64 t) ∧ W.cell? ⟨p9, 2, none⟩ = some (.slice va es.length vc) := fun W hW => (H3.out.2.1.kept hW (by simp)).cells
  have HX0 := hid_mk (show BS w3 w3 #[.bool false, .int .i64 0, .int .i64 0, .slice none 0 0] 51 none from ⟨grown_refl _ _, fun q e => by cases e⟩)
  go_cut [10] (fun s wx => ∃ (q : Nat) (av : Value), s = .pointer (some ⟨q, 0, none⟩) ∧ Hid (w3.grownBy wx none ∧ FB wx q F0.yes F0.mt F0.cut av))
  case first =>
    refine wp_region_fork (X := fun _ _ _ => False) [(0, true), (1, true), (2, true), (3, true)] 4 #[true, true, true, true, false, false, false, false] (cl w3 w3) (by kernel_rfl) (by kernel_rfl) rfl (by kernel_rfl) (fun _ _ _ h => h.elim) (shut_at0 (fun mm => grown_drewN _ mm _)) ⟨1, rfl⟩ ?_
    repeat (refine mix_rd1X rfl rfl (fun K hK => ?_); apply Exists.intro; refine ⟨fun W0 hW => ?_, ?_⟩; (obtain ⟨d0, d1, d2⟩ := HCL W0 hW; go_simp; rfl); (go_simp; refine hK _ _ ?_; clear hK K))
    refine mix_nilX ?_
    refine fork2 4 6 (by kernel_rfl) ?_ ?_
    · refine bs_call HX0.out 23 #[.slice a2 l.length c2] (fun v _ W' => ∃ oa oc, v = .slice oa l.length oc ∧ EntsR W' (.slice oa l.length oc) l) rfl rfl (fun W => by go_simp) (fun W1 hW1 => (ownL_any _ l W1 (HE.out.2.1.kept (grown_trans H3.out.2.2 (grown_trans HX0.out.gr hW1))) hn2).mono (by
          rintro e W' ⟨v, ps, rfl, heo, hmap⟩
          obtain ⟨oa, oc, hv⟩ := row_shape heo.row
          subst hv
          have hl : ps.length = l.length := by have := congrArg List.length hmap; simpa using this
          have hr := heo.reads
          rw [hmap, hl] at hr
          rw [hl]
          exact ⟨_, rfl, ⟨oa, oc, rfl, hr⟩, heo.gr⟩)) ?_
      intro K hK v W1 Wc1 H1
      obtain ⟨hbs1, hg1, hg2, oa, oc, hv, hrd⟩ := H1.out
      subst hv
      have HBS1 := hid_mk hbs1
      have HOW := hid_mk hrd
      clear hbs1 hg1 hg2 hrd H1
      go_simp
      refine hK _ _ ?_
      clear hK K
      refine fork2 5 6 (by kernel_rfl) ?_ ?_
      · refine bs_call HBS1.out 24 #[viewV b t (.slice va es.length vc), .int .i64 prev, .int .i64 term, .slice oa l.length oc] (fun v _ _ => ∃ fa fn fc, v = fitV F0 (.slice fa fn fc)) rfl rfl (fun W => by rw [HVn.out]; go_simp) (fun W1 hW1 => (try_any b t _ es prev term _ l W1 (H3.out.1.kept (grown_trans HBS1.out.gr hW1)) (HOW.out.kept (hW1)) (by omega) (by omega) HE.out.2.2.1 HE.out.2.2.2).mono (by
            rintro e W' ⟨av, ps, rfl, heo, hmap⟩
            obtain ⟨fa, fc, hv⟩ := row_shape heo.row
            subst hv
            exact ⟨_, rfl, ⟨fa, _, fc, by rw [HF0.out]⟩, heo.gr⟩)) ?_
        intro K hK v W1 Wc2 H2
        obtain ⟨hbs2, hg1, hg2, fa, fn, fc, hv⟩ := H2.out
        subst hv
        have HBS2 := hid_mk hbs2
        clear hbs2 hg1 hg2 H2
        unfold fitV
        go_simp
        refine hK _ _ ?_
        clear hK K
        refine fork1 6 (by kernel_rfl) ?_
        refine bs_box #[.bool false, .int .i64 0, .int .i64 0, .slice none 0 0] HBS2.out rfl rfl (fun W => by go_simp) ?_
        intro K hK q Wb3 HB3
        have HBS3 := hid_mk HB3.out.1
        go_simp
        refine hK _ _ ?_
        clear hK K
        refine fork1 7 (by kernel_rfl) ?_
        refine bs_store q HBS3.out #[.bool F0.yes, .int .i64 F0.mt, .int .i64 F0.cut, .slice fa fn fc] (fun W => (((W.setCell ⟨q, 0, none⟩ (.bool F0.yes)).setCell ⟨q, 1, none⟩ (.int .i64 F0.mt)).setCell ⟨q, 2, none⟩ (.int .i64 F0.cut)).setCell ⟨q, 3, none⟩ (.slice fa fn fc)) (fun W hb => FB.put (show FB W q false 0 0 (.slice none 0 0) from hb) _ _ _ _) rfl rfl (fun W hb => by
          obtain ⟨e0, e1, e2, e3⟩ := (show FB W q false 0 0 (.slice none 0 0) from hb).cells
          have ef := fun j => hb.frozen j
          first | (left; go_simp; done) | (right; apply Exists.intro; go_simp; rfl) | (right; apply Exists.intro; go_simp)) rfl ?_
        intro K hK Ws HS
        refine hK _ _ ?_
        clear hK K
        refine fork_end (by kernel_rfl) ?_
        rintro Wz ⟨mz, rfl⟩
        go_wp2_with fail
        go_meet
        case rel => exact ⟨q, .slice fa fn fc, rfl, hid_mk ⟨grown_trans HS.out.1 (grown_drewN _ mz none), (show FB Ws q F0.yes F0.mt F0.cut (.slice fa fn fc) from HS.out.2.2.1).kept (grown_drewN _ mz none) (by simp)⟩⟩
      · refine bs_box #[.bool false, .int .i64 0, .int .i64 0, .slice none 0 0] HBS1.out rfl rfl (fun W => by go_simp) ?_
        intro K hK q Wb2 HB2
        have HBS2 := hid_mk HB2.out.1
        go_simp
        refine hK _ _ ?_
        clear hK K
        refine fork1 5 (by kernel_rfl) ?_
        refine bs_call HBS2.out 24 #[viewV b t (.slice va es.length vc), .int .i64 prev, .int .i64 term, .slice oa l.length oc] (fun v _ _ => ∃ fa fn fc, v = fitV F0 (.slice fa fn fc)) rfl rfl (fun W => by rw [HVn.out]; go_simp) (fun W1 hW1 => (try_any b t _ es prev term _ l W1 (H3.out.1.kept (grown_trans HBS2.out.gr hW1)) (HOW.out.kept (grown_trans HB2.out.2 hW1)) (by omega) (by omega) HE.out.2.2.1 HE.out.2.2.2).mono (by
            rintro e W' ⟨av, ps, rfl, heo, hmap⟩
            obtain ⟨fa, fc, hv⟩ := row_shape heo.row
            subst hv
            exact ⟨_, rfl, ⟨fa, _, fc, by rw [HF0.out]⟩, heo.gr⟩)) ?_
        intro K hK v W1 Wc5 H5
        obtain ⟨hbs5, hg1, hg2, fa, fn, fc, hv⟩ := H5.out
        subst hv
        have HBS5 := hid_mk hbs5
        clear hbs5 hg1 hg2 H5
        unfold fitV
        go_simp
        refine hK _ _ ?_
        clear hK K
        refine fork1 7 (by kernel_rfl) ?_
        refine bs_store q HBS5.out #[.bool F0.yes, .int .i64 F0.mt, .int .i64 F0.cut, .slice fa fn fc] (fun W => (((W.setCell ⟨q, 0, none⟩ (.bool F0.yes)).setCell ⟨q, 1, none⟩ (.int .i64 F0.mt)).setCell ⟨q, 2, none⟩ (.int .i64 F0.cut)).setCell ⟨q, 3, none⟩ (.slice fa fn fc)) (fun W hb => FB.put (show FB W q false 0 0 (.slice none 0 0) from hb) _ _ _ _) rfl rfl (fun W hb => by
          obtain ⟨e0, e1, e2, e3⟩ := (show FB W q false 0 0 (.slice none 0 0) from hb).cells
          have ef := fun j => hb.frozen j
          first | (left; go_simp; done) | (right; apply Exists.intro; go_simp; rfl) | (right; apply Exists.intro; go_simp)) rfl ?_
        intro K hK Ws HS
        refine hK _ _ ?_
        clear hK K
        refine fork_end (by kernel_rfl) ?_
        rintro Wz ⟨mz, rfl⟩
        go_wp2_with fail
        go_meet
        case rel => exact ⟨q, .slice fa fn fc, rfl, hid_mk ⟨grown_trans HS.out.1 (grown_drewN _ mz none), (show FB Ws q F0.yes F0.mt F0.cut (.slice fa fn fc) from HS.out.2.2.1).kept (grown_drewN _ mz none) (by simp)⟩⟩
    · refine bs_box #[.bool false, .int .i64 0, .int .i64 0, .slice none 0 0] HX0.out rfl rfl (fun W => by go_simp) ?_
      intro K hK q Wb1 HB1
      have HBS1 := hid_mk HB1.out.1
      go_simp
      refine hK _ _ ?_
      clear hK K
      refine fork1 4 (by kernel_rfl) ?_
      refine bs_call HBS1.out 23 #[.slice a2 l.length c2] (fun v _ W' => ∃ oa oc, v = .slice oa l.length oc ∧ EntsR W' (.slice oa l.length oc) l) rfl rfl (fun W => by go_simp) (fun W1 hW1 => (ownL_any _ l W1 (HE.out.2.1.kept (grown_trans H3.out.2.2 (grown_trans HBS1.out.gr hW1))) hn2).mono (by
          rintro e W' ⟨v, ps, rfl, heo, hmap⟩
          obtain ⟨oa, oc, hv⟩ := row_shape heo.row
          subst hv
          have hl : ps.length = l.length := by have := congrArg List.length hmap; simpa using this
          have hr := heo.reads
          rw [hmap, hl] at hr
          rw [hl]
          exact ⟨_, rfl, ⟨oa, oc, rfl, hr⟩, heo.gr⟩)) ?_
      intro K hK v W1 Wc7 H7
      obtain ⟨hbs7, hg1, hg2, oa, oc, hv, hrd⟩ := H7.out
      subst hv
      have HBS7 := hid_mk hbs7
      have HOW := hid_mk hrd
      clear hbs7 hg1 hg2 hrd H7
      go_simp
      refine hK _ _ ?_
      clear hK K
      refine fork1 5 (by kernel_rfl) ?_
      refine bs_call HBS7.out 24 #[viewV b t (.slice va es.length vc), .int .i64 prev, .int .i64 term, .slice oa l.length oc] (fun v _ _ => ∃ fa fn fc, v = fitV F0 (.slice fa fn fc)) rfl rfl (fun W => by rw [HVn.out]; go_simp) (fun W1 hW1 => (try_any b t _ es prev term _ l W1 (H3.out.1.kept (grown_trans HBS7.out.gr hW1)) (HOW.out.kept (hW1)) (by omega) (by omega) HE.out.2.2.1 HE.out.2.2.2).mono (by
          rintro e W' ⟨av, ps, rfl, heo, hmap⟩
          obtain ⟨fa, fc, hv⟩ := row_shape heo.row
          subst hv
          exact ⟨_, rfl, ⟨fa, _, fc, by rw [HF0.out]⟩, heo.gr⟩)) ?_
      intro K hK v W1 Wc8 H8
      obtain ⟨hbs8, hg1, hg2, fa, fn, fc, hv⟩ := H8.out
      subst hv
      have HBS8 := hid_mk hbs8
      clear hbs8 hg1 hg2 H8
      unfold fitV
      go_simp
      refine hK _ _ ?_
      clear hK K
      refine fork1 7 (by kernel_rfl) ?_
      refine bs_store q HBS8.out #[.bool F0.yes, .int .i64 F0.mt, .int .i64 F0.cut, .slice fa fn fc] (fun W => (((W.setCell ⟨q, 0, none⟩ (.bool F0.yes)).setCell ⟨q, 1, none⟩ (.int .i64 F0.mt)).setCell ⟨q, 2, none⟩ (.int .i64 F0.cut)).setCell ⟨q, 3, none⟩ (.slice fa fn fc)) (fun W hb => FB.put (show FB W q false 0 0 (.slice none 0 0) from hb) _ _ _ _) rfl rfl (fun W hb => by
        obtain ⟨e0, e1, e2, e3⟩ := (show FB W q false 0 0 (.slice none 0 0) from hb).cells
        have ef := fun j => hb.frozen j
        first | (left; go_simp; done) | (right; apply Exists.intro; go_simp; rfl) | (right; apply Exists.intro; go_simp)) rfl ?_
      intro K hK Ws HS
      refine hK _ _ ?_
      clear hK K
      refine fork_end (by kernel_rfl) ?_
      rintro Wz ⟨mz, rfl⟩
      go_wp2_with fail
      go_meet
      case rel => exact ⟨q, .slice fa fn fc, rfl, hid_mk ⟨grown_trans HS.out.1 (grown_drewN _ mz none), (show FB Ws q F0.yes F0.mt F0.cut (.slice fa fn fc) from HS.out.2.2.1).kept (grown_drewN _ mz none) (by simp)⟩⟩
  case rest =>
    obtain ⟨q, av, rfl, HQ⟩ := hcut
    clear HX0
    rename World => w4
    obtain ⟨f0, f1, f2, f3⟩ := HQ.out.2.cells
    cases hy : F0.yes with
    | true =>
      rw [hy] at f0
      go_wp2_with fail
      refine (knows_any w4).mono ?_
      rintro e w5 ⟨rfl, hg⟩
      have HG := hid_mk (grown_trans (grown_trans H3.out.2.2 HQ.out.1) hg)
      clear hg
      go_wp2
      go_ret
      exact ⟨rfl, HG.out⟩
    | false =>
      rw [hy] at f0
      obtain ⟨M0, hM0⟩ : ∃ M0, M0 = F0.mt := ⟨_, rfl⟩
      rw [← hM0] at f1
      by_cases hm : M0 = 0
      · have hm' : (M0 == 0) = true := by rw [hm]; rfl
        clear hm
        go_wp2_with fail
        refine (knows_any w4).mono ?_
        rintro e w5 ⟨rfl, hg⟩
        have HG := hid_mk (grown_trans (grown_trans H3.out.2.2 HQ.out.1) hg)
        clear hg
        go_wp2
        go_ret
        exact ⟨rfl, HG.out⟩
      · have hm' : (M0 == 0) = false := beq_eq_false_iff_ne.2 hm
        obtain ⟨hr, hlo, hhi⟩ := try_hints (b := b) (t := t) (es := es) (prev := prev) (term := term) (l := l) (by rw [← HF0.out]; exact hy) (by rw [← HF0.out, ← hM0]; exact hm)
        rw [← HF0.out, ← hM0] at hlo hhi
        obtain ⟨hb0, hb1, _, _, hl1, hgo⟩ := rightV_spec hr
        have HR := hid_mk (And.intro hr hgo)
        have HM0 := hid_mk hM0
        clear hr hgo hM0 hm hy
        obtain ⟨v0, v1, v2⟩ := HCL w4 HQ.out.1
        go_wp2_with fail
        rw [← HVn.out]
        refine (last_any b t _ es w4 (H3.out.1.kept HQ.out.1) (by omega) HE.out.2.2.1).mono ?_
        rintro e w5 ⟨rfl, hg⟩
        rw [HVn.out, if_pos HR.out.1, if_pos HR.out.1, endI_of HR.out.2]
        have HG := hid_mk (And.intro (grown_trans (grown_trans H3.out.2.2 HQ.out.1) hg) (grown_trans HQ.out.1 hg))
        obtain ⟨f0', f1', f2', f3'⟩ := (HQ.out.2.kept hg (by simp)).cells
        clear hg v0 v1 v2 f0 f1 f2 f3
        rw [← HM0.out] at f1'
        obtain ⟨v0, v1, v2⟩ := HCL w5 HG.out.2
        obtain ⟨T0, hT0⟩ : ∃ T0, T0 = endT t es := ⟨_, rfl⟩
        rw [← hT0]
        clear hT0
        obtain ⟨n, hn'⟩ : ∃ n : Int, n = es.length := ⟨_, rfl⟩
        have hn3 : 0 ≤ n ∧ n ≤ 4096 := by omega
        rw [← hn'] at hhi ⊢
        clear hn'
        have hlo' : decide (M0 > b) = true := decide_eq_true hlo
        have hpi := HE.out.2.2.2
        unfold I64 at hpi
        go_wp2_with fail
        all_goals
          refine (knows_any w5).mono ?_
          rintro e w6 ⟨rfl, hg⟩
          have HG6 := hid_mk (grown_trans HG.out.1 hg)
          clear hg
          go_wp2
          go_ret
          exact ⟨rfl, HG6.out⟩
end Go.Proofs.Ytckblgpalbedhaa.W
