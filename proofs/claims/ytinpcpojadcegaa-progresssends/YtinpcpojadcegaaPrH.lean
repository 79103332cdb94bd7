/- The document's Batch; ProgressSends. -/
import Derived.Test.YtinpcpojadcegaaPrG
import Derived.Test.YtinpcpojadcegaaErD
import Derived.Test.YtinpcpojadcegaaPrK
namespace Go.Proofs.Ytinpcpojadcegaa.W
open Go.RowKit Go.Maps
set_option linter.unusedVariables false
set_option linter.unusedSimpArgs false
set_option maxRecDepth 100000
attribute [local go_sem] Oper.semAt_some

/-- What is sent lies apart from bytes and entries. -/
theorem SB.at {W : World} {ty : TypeId} {g : Nat} {s : Bool} {p t : Int} {a : Option Addr} {n c k : Nat} {u : Value} (h : SB W ty g s p t (.slice a n c)) (hu : W.cell? ⟨g, k, none⟩ = some u) : (k = 0 ∧ u = .bool s) ∨ (k = 1 ∧ u = .int .i64 p) ∨ (k = 2 ∧ u = .int .i64 t) ∨ (k = 3 ∧ u = .slice a n c) := by
  rw [cell_of_row _ _ _ _ _ _ h] at hu
  match k, hu with
  | 0, hu => simp at hu; exact .inl ⟨rfl, hu.symm⟩
  | 1, hu => simp at hu; exact .inr (.inl ⟨rfl, hu.symm⟩)
  | 2, hu => simp at hu; exact .inr (.inr (.inl ⟨rfl, hu.symm⟩))
  | 3, hu => simp at hu; exact .inr (.inr (.inr ⟨rfl, hu.symm⟩))
  | k + 4, hu => simp at hu
theorem Byt.sb {W W' : World} {v : Value} {l : List UInt8} {ty : TypeId} {g : Nat} {s : Bool} {p t : Int} {a : Option Addr} {n c : Nat} (h : Byt W v l) (hs : SB W ty g s p t (.slice a n c)) (hg : W.grownBy W' (some g)) : Byt W' v l := by
  rcases h with h | ⟨b, off, cap, hv, hcp, hc⟩
  · exact .inl h
  · refine .inr ⟨b, off, cap, hv, hcp, fun j u hj => ?_⟩
    have h1 := hc j u hj
    refine hg.cell h1 (fun e => ?_)
    injection e with e
    simp only at e
    subst e
    rcases hs.at h1 with ⟨_, e⟩ | ⟨_, e⟩ | ⟨_, e⟩ | ⟨_, e⟩ <;> cases e
theorem EntsR.sb {W W' : World} {v : Value} {l : List Ent} {ty : TypeId} {g : Nat} {s : Bool} {p t : Int} {a : Option Addr} {n c : Nat} (h : EntsR W v l) (hs : SB W ty g s p t (.slice a n c)) (hg : W.grownBy W' (some g)) : EntsR W' v l := by
  rcases h with h | ⟨b, off, cap, hv, hcp, hc⟩
  · exact .inl h
  · refine .inr ⟨b, off, cap, hv, hcp, fun i x hx => ?_⟩
    obtain ⟨dv, c0, c1, c2, c3, hb, hl⟩ := hc i x hx
    have hne : b ≠ g := by
      rintro rfl
      rcases hs.at c0 with ⟨_, e⟩ | ⟨k0, _⟩ | ⟨k0, _⟩ | ⟨_, e⟩
      · cases e
      · rcases hs.at c2 with ⟨k2, e⟩ | ⟨k2, _⟩ | ⟨k2, _⟩ | ⟨_, e⟩
        · omega
        · omega
        · omega
        · cases e
      · rcases hs.at c1 with ⟨k2, e⟩ | ⟨k2, _⟩ | ⟨k2, _⟩ | ⟨_, e⟩
        · omega
        · omega
        · omega
        · cases e
      · cases e
    have hn : ∀ k : Nat, some (⟨b, k, none⟩ : Addr).block ≠ some g := fun k e => hne (by injection e)
    exact ⟨dv, hg.cell c0 (hn _), hg.cell c1 (hn _), hg.cell c2 (hn _), hg.cell c3 (hn _), hb.sb hs hg, hl⟩
set_option maxHeartbeats 8000000 in
theorem rbatch_any (b t : Int) (lv : Value) (es : List Ent) (next : Int) (w : World) (h : EntsR w lv es) (hlen : es.length * 48 ≤ 140737488355328) (hb : I64 b) (hx : I64 next) :
    Calls Try.prog 10 #[viewV b t lv, .int .i64 next] w fun e w' => ∃ lv', e = .returned (batV (batF b t es next) lv') ∧ EntsR w' lv' (batF b t es next).ents ∧ w.grownBy w' none := by
  obtain ⟨a, c, rfl⟩ := h.len
  have HE := hid_mk (And.intro h hb)
  have hlen' : es.length ≤ 10000000000000 := by omega
  clear h hb
  unfold I64 at hx
  have hV : viewV b t (.slice a es.length c) = .agg #[.int .i64 b, .int .i64 t, .slice a es.length c] := rfl
  have HV := hid_mk hV
  rw [hV]
  clear hV
  have HA := hid_mk (show RB ((w.alloc (.cells #[.int .i64 b, .int .i64 t, .slice a es.length c] 24)).alloc (.cells #[.bool false, .int .i64 0, .int .i64 0, .slice none 0 0] 30)) w.heap.size b t (.slice a es.length c) ∧ SB ((w.alloc (.cells #[.int .i64 b, .int .i64 t, .slice a es.length c] 24)).alloc (.cells #[.bool false, .int .i64 0, .int .i64 0, .slice none 0 0] 30)) 30 (w.heap.size + 1) false 0 0 (.slice none 0 0) ∧ w.grownBy ((w.alloc (.cells #[.int .i64 b, .int .i64 t, .slice a es.length c] 24)).alloc (.cells #[.bool false, .int .i64 0, .int .i64 0, .slice none 0 0] 30)) none from by
    refine ⟨(RB.new w b t (.slice a es.length c)).kept (World.grownBy_alloc _ _ none) (by simp), ?_, grown_trans (World.grownBy_alloc _ _ none) (World.grownBy_alloc _ _ none)⟩
    have := SB.new (w.alloc (.cells #[.int .i64 b, .int .i64 t, .slice a es.length c] 24)) 30 false 0 0 (.slice none 0 0)
    simpa using this)
  go_enter Try.func10, Try.ntmps10
  go_upto_region 1 with fail
  generalize (w.alloc (.cells #[.int .i64 b, .int .i64 t, .slice a es.length c] 24)).alloc (.cells #[.bool false, .int .i64 0, .int .i64 0, .slice none 0 0] 30) = w1 at *
  obtain ⟨v0, v1, v2⟩ := HA.out.1.cells
  go_wp2_with fail
  rw [← HV.out]
  refine (rrightV_any b t _ es w1 (HE.out.1.kept HA.out.2.2) hlen').mono ?_
  rintro e w2 ⟨rfl, hg⟩
  rw [HV.out]
  have H2 := hid_mk (show RB w2 w.heap.size b t (.slice a es.length c) ∧ SB w2 30 (w.heap.size + 1) false 0 0 (.slice none 0 0) ∧ w.grownBy w2 none from by
    obtain ⟨x1, x2, x3⟩ := HA.out
    exact ⟨x1.kept hg (by simp), x2.kept hg (by simp), grown_trans x3 hg⟩)
  clear hg v0 v1 v2 HA
  cases hr : rightV b t es with
  | false =>
    have HT := hid_mk (batF_bad (next := next) hr)
    obtain ⟨r0, r1, r2, r3⟩ := H2.out.2.1.cells
    have z0 := H2.out.2.1.frozen (i := 0)
    have z1 := H2.out.2.1.frozen (i := 1)
    have z2 := H2.out.2.1.frozen (i := 2)
    have z3 := H2.out.2.1.frozen (i := 3)
    go_wp2_with fail
    obtain ⟨p1, p2⟩ := H2.out.2.1.put false 0 0 (.slice none 0 0)
    refine bodyPost_ret (ret_bat30 rfl _ _ _ _ _ _ _ rfl p1) rfl ?_
    rw [HT.out]
    exact ⟨_, rfl, EntsR.nil _, grown_new H2.out.2.2 p2 (by omega)⟩
  | true =>
    obtain ⟨hb0, hb1, _, _, hn4, hgo⟩ := rightV_spec hr
    obtain ⟨v0, v1, v2⟩ := H2.out.1.cells
    by_cases hlow : next ≤ b
    · have HT := hid_mk (batF_snap (next := next) hr hlow)
      obtain ⟨r0, r1, r2, r3⟩ := H2.out.2.1.cells
      have z0 := H2.out.2.1.frozen (i := 0)
      have z1 := H2.out.2.1.frozen (i := 1)
      have z2 := H2.out.2.1.frozen (i := 2)
      have z3 := H2.out.2.1.frozen (i := 3)
      go_wp2_with fail
      obtain ⟨p1, p2⟩ := H2.out.2.1.put true 0 0 (.slice none 0 0)
      refine bodyPost_ret (ret_bat30 rfl _ _ _ _ _ _ _ rfl p1) rfl ?_
      rw [HT.out]
      exact ⟨_, rfl, EntsR.nil _, grown_new H2.out.2.2 p2 (by omega)⟩
    · obtain ⟨PP, hPP⟩ : ∃ PP : Int, PP = min (next - 1) (b + es.length) := ⟨_, rfl⟩
      have HT := hid_mk (batF_ok (P := PP) hr (by omega) hPP)
      have HPI := hid_mk (show I64 (PP + 1) from by unfold I64; omega)
      have HL := hid_mk (show (if rightV b t es = true then endI b es else 0) = b + es.length from by rw [if_pos hr, endI_of hgo])
      have HTR := hid_mk (termR_in (i := PP) hr (by omega) (by omega))
      obtain ⟨TT, hTT⟩ : ∃ TT, TT = termA b t es PP := ⟨_, rfl⟩
      rw [← hTT] at HT HTR
      have hPP1 : -9223372036854775808 ≤ PP ∧ PP < 9223372036854775807 := by omega
      have hmin : min (next - 1) (b + (es.length : Int)) = PP := hPP.symm
      have hif : (if b + (es.length : Int) < next - 1 then b + (es.length : Int) else next - 1) = PP := by rw [hPP]; split <;> omega
      clear hPP hTT hgo
      go_wp2_with fail
      rw [← HV.out]
      refine (rLast_any b t _ es w2 (HE.out.1.kept H2.out.2.2) hlen').mono ?_
      rintro e w3 ⟨rfl, hg⟩
      rw [HV.out, HL.out]
      generalize (if rightV b t es = true then endT t es else 0) = TE
      have H3 := hid_mk (show RB w3 w.heap.size b t (.slice a es.length c) ∧ SB w3 30 (w.heap.size + 1) false 0 0 (.slice none 0 0) ∧ w.grownBy w3 none from by
        obtain ⟨x1, x2, x3⟩ := H2.out
        exact ⟨x1.kept hg (by simp), x2.kept hg (by simp), grown_trans x3 hg⟩)
      clear hg v0 v1 v2 H2 hr
      obtain ⟨v0, v1, v2⟩ := H3.out.1.cells
      go_upto_region 7 with fail
      go_wp2_with fail
      rw [← HV.out]
      refine (rTermOf_any b t _ es PP w3 (HE.out.1.kept H3.out.2.2) hlen').mono ?_
      rintro e w4 ⟨rfl, hg⟩
      rw [HV.out, HTR.out]
      simp only
      have H4 := hid_mk (show RB w4 w.heap.size b t (.slice a es.length c) ∧ SB w4 30 (w.heap.size + 1) false 0 0 (.slice none 0 0) ∧ w.grownBy w4 none from by
        obtain ⟨x1, x2, x3⟩ := H3.out
        exact ⟨x1.kept hg (by simp), x2.kept hg (by simp), grown_trans x3 hg⟩)
      clear hg v0 v1 v2 H3
      obtain ⟨v0, v1, v2⟩ := H4.out.1.cells
      go_wp2_with fail
      rw [← HV.out]
      refine (rFrom_any b t _ es (PP + 1) 8 w4 (HE.out.1.kept H4.out.2.2) hlen HPI.out (by unfold I64; omega)).mono ?_
      rintro e w5 ⟨fv, rfl, hrd, hg⟩
      rw [HV.out]
      obtain ⟨fa, fc, hfv⟩ := hrd.len
      subst hfv
      obtain ⟨fn, hfn⟩ : ∃ fn, fn = (fromL b t es (PP + 1) 8).length := ⟨_, rfl⟩
      rw [← hfn] at hrd ⊢
      have H5 := hid_mk (show EntsR w5 (.slice fa fn fc) (fromL b t es (PP + 1) 8) ∧ SB w5 30 (w.heap.size + 1) false 0 0 (.slice none 0 0) ∧ w.grownBy w5 none from by
        obtain ⟨x1, x2, x3⟩ := H4.out
        exact ⟨hrd, x2.kept hg (by simp), grown_trans x3 hg⟩)
      clear hrd hg hfn v0 v1 v2 H4
      obtain ⟨r0, r1, r2, r3⟩ := H5.out.2.1.cells
      have z0 := H5.out.2.1.frozen (i := 0)
      have z1 := H5.out.2.1.frozen (i := 1)
      have z2 := H5.out.2.1.frozen (i := 2)
      have z3 := H5.out.2.1.frozen (i := 3)
      go_wp2_with fail
      obtain ⟨p1, p2⟩ := H5.out.2.1.put false PP TT (.slice fa fn fc)
      refine bodyPost_ret (ret_bat30 rfl _ _ _ _ _ _ _ rfl p1) rfl ?_
      rw [HT.out]
      exact ⟨_, rfl, H5.out.1.sb H5.out.2.1 p2, grown_new H5.out.2.2 p2 (by omega)⟩

theorem fromL_len (b t : Int) (es : List Ent) (i : Int) : (fromL b t es i 8).length ≤ 8 := by
  unfold fromL
  split
  · rw [List.length_take]
    exact Nat.min_le_left _ _
  · exact Nat.zero_le _
theorem batF_len (b t : Int) (es : List Ent) (next : Int) : (batF b t es next).ents.length ≤ 8 := by
  unfold batF
  by_cases h : rightV b t es = true
  · rw [if_pos h]
    by_cases h2 : next ≤ b
    · rw [if_pos h2]; exact Nat.zero_le _
    · rw [if_neg h2]; exact fromL_len _ _ _ _
  · rw [if_neg h]; exact Nat.zero_le _
set_option maxHeartbeats 8000000 in
theorem sends_any (b t : Int) (lv : Value) (es : List Ent) (next : Int) (w : World) (h : EntsR w lv es) (hn : es.length * 48 ≤ 140737488355328) (hb : I64 b) (hx : I64 next) :
    Calls Try.prog 3 #[viewV b t lv, .int .i64 next] w fun e w' => e = .returned (.bool true) ∧ w.grownBy w' none := by
  obtain ⟨a, c, rfl⟩ := h.len
  have HE := hid_mk (And.intro h (And.intro hb hx))
  have hn' : es.length ≤ 10000000000000 := by omega
  clear h hb hx
  have hV : viewV b t (.slice a es.length c) = .agg #[.int .i64 b, .int .i64 t, .slice a es.length c] := rfl
  have HV := hid_mk hV
  rw [hV]
  clear hV
  have HA := hid_mk (And.intro (RB.new w b t (.slice a es.length c)) (World.grownBy_alloc w (.cells #[.int .i64 b, .int .i64 t, .slice a es.length c] 24) none))
  go_enter Try.func3, Try.ntmps3
  go_upto_region 1 with fail
  generalize w.alloc (.cells #[.int .i64 b, .int .i64 t, .slice a es.length c] 24) = w1 at *
  obtain ⟨v0, v1, v2⟩ := HA.out.1.cells
  go_wp2_with fail
  rw [← HV.out]
  refine (view_any b t _ es w1 (HE.out.1.kept HA.out.2) hn).mono ?_
  rintro e w2 ⟨lv', ps, rfl, heo, hmap⟩
  rw [HV.out]
  obtain ⟨va, vc, hv⟩ := row_shape heo.row
  subst hv
  have hpl : ps.length = es.length := by have := congrArg List.length hmap; simpa using this
  have hrd := heo.reads
  rw [hmap, hpl] at hrd
  rw [hpl]
  have hVn : viewV b t (.slice va es.length vc) = .agg #[.int .i64 b, .int .i64 t, .slice va es.length vc] := rfl
  have HVn := hid_mk hVn
  rw [hVn]
  clear hVn
  have H3 := hid_mk (show EntsR (w2.alloc (.cells #[.int .i64 b, .int .i64 t, .slice va es.length vc] 25)) (.slice va es.length vc) es ∧ VB (w2.alloc (.cells #[.int .i64 b, .int .i64 t, .slice va es.length vc] 25)) w2.heap.size b t (.slice va es.length vc) ∧ RB (w2.alloc (.cells #[.int .i64 b, .int .i64 t, .slice va es.length vc] 25)) w.heap.size b t (.slice a es.length c) ∧ w.grownBy (w2.alloc (.cells #[.int .i64 b, .int .i64 t, .slice va es.length vc] 25)) none from
    ⟨hrd.kept (World.grownBy_alloc _ _ none), VB.new _ _ _ _, HA.out.1.kept (grown_trans heo.gr (World.grownBy_alloc _ _ none)) (by simp), grown_trans (grown_trans HA.out.2 heo.gr) (World.grownBy_alloc _ _ none)⟩)
  clear heo hmap hpl hrd v0 v1 v2 HA
  go_upto_region 2 with fail
  generalize w2.alloc (.cells #[.int .i64 b, .int .i64 t, .slice va es.length vc] 25) = w3 at *
  obtain ⟨p9, hp9⟩ : ∃ p9, p9 = w2.heap.size := ⟨_, rfl⟩
  rw [← hp9] at H3 ⊢
  clear hp9
  have HCL : ∀ W, w3.grownBy W none → W.cell? ⟨p9, 0, none⟩ = some (.int .i64 b) ∧ W.cell? ⟨p9, 1, none⟩ = some (.int .i64 t) ∧ W.cell? ⟨p9, 2, none⟩ = some (.slice va es.length vc) ∧ W.cell? ⟨w.heap.size, 0, none⟩ = some (.int .i64 b) ∧ W.cell? ⟨w.heap.size, 1, none⟩ = some (.int .i64 t) ∧ W.cell? ⟨w.heap.size, 2, none⟩ = some (.slice a es.length c) := fun W hW => by
    obtain ⟨x0, x1, x2⟩ := (H3.out.2.1.kept hW (by simp)).cells
    exact ⟨x0, x1, x2, (H3.out.2.2.1.kept hW (by simp)).cells⟩
  obtain ⟨d0, d1, d2, d3, d4, d5⟩ := HCL w3 (grown_refl _ _)
  go_wp2_with fail
  rw [← HVn.out]
  refine (batch_any b t _ es next w3 H3.out.1 hn' HE.out.2.1 HE.out.2.2).mono ?_
  rintro e w4 ⟨bv, qs, rfl, heo, hmap⟩
  rw [HVn.out]
  obtain ⟨ba, bc, hbv⟩ := row_shape heo.row
  subst hbv
  obtain ⟨bn, hbn⟩ : ∃ bn, bn = qs.length := ⟨_, rfl⟩
  have hrd := heo.reads
  rw [hmap] at hrd
  rw [← hbn] at hrd ⊢
  obtain ⟨fs, fp, ft, fl, hF⟩ : ∃ fs fp ft fl, batF b t es next = ⟨fs, fp, ft, fl⟩ := ⟨_, _, _, _, rfl⟩
  rw [hF] at hrd ⊢
  simp only at hrd
  rw [show batV ⟨fs, fp, ft, fl⟩ (.slice ba bn bc) = .agg #[.bool fs, .int .i64 fp, .int .i64 ft, .slice ba bn bc] from rfl]
  have HF := hid_mk hF
  have H4 := hid_mk (show EntsR (w4.alloc (.cells #[.bool fs, .int .i64 fp, .int .i64 ft, .slice ba bn bc] 28)) (.slice ba bn bc) fl ∧ SB (w4.alloc (.cells #[.bool fs, .int .i64 fp, .int .i64 ft, .slice ba bn bc] 28)) 28 w4.heap.size fs fp ft (.slice ba bn bc) ∧ w3.grownBy (w4.alloc (.cells #[.bool fs, .int .i64 fp, .int .i64 ft, .slice ba bn bc] 28)) none from
    ⟨hrd.kept (World.grownBy_alloc _ _ none), SB.new _ _ _ _ _ _, grown_trans heo.gr (World.grownBy_alloc _ _ none)⟩)
  have hbl : fl.length ≤ 4096 := by
    have e1 := congrArg Bat.ents hF
    rw [show (Bat.mk fs fp ft fl).ents = fl from rfl] at e1
    rw [← e1]
    exact Nat.le_trans (batF_len _ _ _ _) (by decide)
  clear heo hmap hbn hrd hF d0 d1 d2 d3 d4 d5
  go_upto_region 3 with fail
  generalize w4.alloc (.cells #[.bool fs, .int .i64 fp, .int .i64 ft, .slice ba bn bc] 28) = w5 at *
  obtain ⟨p6, hp6⟩ : ∃ p6, p6 = w4.heap.size := ⟨_, rfl⟩
  rw [← hp6] at H4 ⊢
  clear hp6
  obtain ⟨d0, d1, d2, d3, d4, d5⟩ := HCL w5 H4.out.2.2
  go_wp2_with fail
  rw [← HV.out]
  refine (rbatch_any b t _ es next w5 (HE.out.1.kept (grown_trans H3.out.2.2.2 H4.out.2.2)) hn HE.out.2.1 HE.out.2.2).mono ?_
  rintro e w6 ⟨rv, rfl, hrd, hg⟩
  rw [HV.out]
  rw [HF.out] at hrd ⊢
  simp only at hrd
  obtain ⟨ra, rc, hrv⟩ := hrd.len
  subst hrv
  obtain ⟨rn, hrn⟩ : ∃ rn, rn = fl.length := ⟨_, rfl⟩
  rw [← hrn] at hrd ⊢
  rw [show batV ⟨fs, fp, ft, fl⟩ (.slice ra rn rc) = .agg #[.bool fs, .int .i64 fp, .int .i64 ft, .slice ra rn rc] from rfl]
  have H6 := hid_mk (show EntsR (w6.alloc (.cells #[.bool fs, .int .i64 fp, .int .i64 ft, .slice ra rn rc] 30)) (.slice ra rn rc) fl ∧ SB (w6.alloc (.cells #[.bool fs, .int .i64 fp, .int .i64 ft, .slice ra rn rc] 30)) 30 w6.heap.size fs fp ft (.slice ra rn rc) ∧ EntsR (w6.alloc (.cells #[.bool fs, .int .i64 fp, .int .i64 ft, .slice ra rn rc] 30)) (.slice ba bn bc) fl ∧ SB (w6.alloc (.cells #[.bool fs, .int .i64 fp, .int .i64 ft, .slice ra rn rc] 30)) 28 p6 fs fp ft (.slice ba bn bc) ∧ w3.grownBy (w6.alloc (.cells #[.bool fs, .int .i64 fp, .int .i64 ft, .slice ra rn rc] 30)) none from by
    have g := World.grownBy_alloc w6 (.cells #[.bool fs, .int .i64 fp, .int .i64 ft, .slice ra rn rc] 30) none
    have g2 := grown_trans hg g
    exact ⟨hrd.kept g, SB.new _ _ _ _ _ _, H4.out.1.kept g2, H4.out.2.1.kept g2 (by simp), grown_trans H4.out.2.2 g2⟩)
  clear hrd hg hrn d0 d1 d2 d3 d4 d5 H4
  go_upto_region 4 with fail
  generalize w6.alloc (.cells #[.bool fs, .int .i64 fp, .int .i64 ft, .slice ra rn rc] 30) = w7 at *
  obtain ⟨p7, hp7⟩ : ∃ p7, p7 = w6.heap.size := ⟨_, rfl⟩
  rw [← hp7] at H6 ⊢
  clear hp7
  obtain ⟨x0, x1, x2, x3⟩ := H6.out.2.1.cells
  obtain ⟨y0, y1, y2, y3⟩ := H6.out.2.2.2.1.cells
  go_wp2_with fail
  refine (entriesEq_any _ _ fl w7 H6.out.2.2.1 H6.out.1 (by omega)).mono ?_
  rintro e w8 ⟨rfl, hg⟩
  have G8 := hid_mk (grown_trans H6.out.2.2.2.2 hg)
  clear hg x0 x1 x2 x3 y0 y1 y2 y3
  obtain ⟨d0, d1, d2, d3, d4, d5⟩ := HCL w8 G8.out
  go_wp2_with fail
  rw [← HVn.out, ← HV.out]
  refine (sameV_any b t _ _ es w8 (H3.out.1.kept G8.out) (HE.out.1.kept (grown_trans H3.out.2.2.2 G8.out)) hn').mono ?_
  rintro e w9 ⟨rfl, hg⟩
  rw [HVn.out, HV.out]
  have G9 := hid_mk (grown_trans (grown_trans H3.out.2.2.2 G8.out) hg)
  clear hg d0 d1 d2 d3 d4 d5
  go_wp2_with fail
  refine (knows_any w9).mono ?_
  rintro e wy ⟨rfl, hg⟩
  have GY := hid_mk (grown_trans G9.out hg)
  clear hg
  go_wp2
  go_ret
  exact ⟨rfl, GY.out⟩
end Go.Proofs.Ytinpcpojadcegaa.W
