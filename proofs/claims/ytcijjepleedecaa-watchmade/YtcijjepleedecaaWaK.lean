/- watch: WatchMade. -/
import Derived.Test.YtcijjepleedecaaWaJ
namespace Go.Proofs.Ytcijjepleedecaa.W
open Go.RowKit Go.Maps
set_option linter.unusedVariables false
set_option linter.unusedSimpArgs false
set_option maxRecDepth 100000
attribute [local go_sem] Oper.semAt_some


theorem wrapz (z : Int) (h1 : -9223372036854775808 ≤ z) (h2 : z ≤ 9223372036854775807) : IntKind.i64.wrap z = z := by rw [IntKind.wrap_i64]; omega
theorem tmod_low {z m : Int} (hm : 0 < m) : -m < z.tmod m ∧ z.tmod m < m := by
  refine ⟨?_, Int.tmod_lt_of_pos z hm⟩
  rcases Int.le_total 0 z with h | h
  · have := Int.tmod_nonneg m h
    omega
  · obtain ⟨y, rfl⟩ : ∃ y, z = -y := ⟨-z, by omega⟩
    rw [Int.neg_tmod]
    have := Int.tmod_lt_of_pos y hm
    omega
theorem mod_facts (z : Int) (n : Nat) (hn : n ≤ 4096) : ∃ (m : Int) (M : Nat), M ≤ n ∧ m ≠ 0 ∧ IntKind.i64.wrap ((n : Int) + 1) = m ∧ IntKind.i64.wrap (z.tmod m) = z.tmod m ∧ IntKind.i64.wrap (z.tmod m + n) = z.tmod m + n ∧ IntKind.i64.wrap (z.tmod m + n + 1) = z.tmod m + n + 1 ∧ (z.tmod m + n + 1).tmod m = M ∧ IntKind.i64.wrap M = M := by
  have hm : (0 : Int) < (n : Int) + 1 := by omega
  obtain ⟨h1, h2⟩ := tmod_low (z := z) hm
  have h3 := Int.tmod_nonneg ((n : Int) + 1) (show 0 ≤ z.tmod ((n : Int) + 1) + n + 1 by omega)
  have h4 := Int.tmod_lt_of_pos (z.tmod ((n : Int) + 1) + n + 1) hm
  refine ⟨(n : Int) + 1, ((z.tmod ((n : Int) + 1) + n + 1).tmod ((n : Int) + 1)).toNat, by omega, by omega, wrapz _ (by omega) (by omega), wrapz _ (by omega) (by omega), wrapz _ (by omega) (by omega), wrapz _ (by omega) (by omega), by omega, wrapz _ (by omega) (by omega)⟩

theorem SB.set4 {W : World} {q : Nat} {ty : TypeId} {s : Sn} {lv : Value} (h : SB W q ty s lv) (z : Int) : SB (W.setCell ⟨q, 4, none⟩ (.int .i64 z)) q ty ⟨s.id, s.term, s.com, s.lead, z, s.t, s.es⟩ lv := by
  have h' : W.heap[q]? = _ := h
  unfold SB Blk seenC
  simp [World.setCell, Array.getElem?_modify, h', seenC]
theorem SB.set5 {W : World} {q : Nat} {ty : TypeId} {s : Sn} {lv : Value} (h : SB W q ty s lv) (z : Int) : SB (W.setCell ⟨q, 5, none⟩ (.int .i64 z)) q ty ⟨s.id, s.term, s.com, s.lead, s.b, z, s.es⟩ lv := by
  have h' : W.heap[q]? = _ := h
  unfold SB Blk seenC
  simp [World.setCell, Array.getElem?_modify, h', seenC]
theorem SB.set6 {W : World} {q : Nat} {ty : TypeId} {s : Sn} {lv : Value} (h : SB W q ty s lv) (lv' : Value) (es' : List Ent) : SB (W.setCell ⟨q, 6, none⟩ lv') q ty ⟨s.id, s.term, s.com, s.lead, s.b, s.t, es'⟩ lv' := by
  have h' : W.heap[q]? = _ := h
  unfold SB Blk seenC
  simp [World.setCell, Array.getElem?_modify, h', seenC]
/-- Pieces of one log have nothing in common that differs. -/
theorem pieces (b t t2 : Int) (es : List Ent) (I K : Nat) : ∀ p ∈ pairs (whB b t (es.take I)) (whE b t (es.take I)) (whB (b + K) t2 (es.drop K)) (whE (b + K) t2 (es.drop K)), diffE p = false := by
  rcases Bool.eq_false_or_eq_true (rightV b t (es.take I)) with h1 | h1
  · rcases Bool.eq_false_or_eq_true (rightV (b + K) t2 (es.drop K)) with h2 | h2
    · obtain ⟨e1, _, e2⟩ := wh_yes h1
      obtain ⟨e3, _, e4⟩ := wh_yes h2
      rw [e1, e2, e3, e4]
      unfold pairs baseC
      rw [show max b (b + (K : Int)) = b + K by omega, show (b + (K : Int) - b).toNat = K by omega, show (b + (K : Int) - (b + K)).toNat = 0 by omega, List.drop_zero]
      exact zip_take_none es I K
    · rw [(wh_no h2).2.2]
      unfold pairs
      simp
  · rw [(wh_no h1).2.2]
    unfold pairs
    simp
theorem pieces_match' (b t t2 : Int) (es : List Ent) (I K : Nat) : matchZ (whB b t (es.take I)) (whE b t (es.take I)) (whB (b + K) t2 (es.drop K)) (whE (b + K) t2 (es.drop K)) = 0 := firstZ_none (pieces b t t2 es I K)
theorem pieces_match (b t t2 : Int) (es : List Ent) (I : Nat) : matchZ (whB b t (es.take I)) (whE b t (es.take I)) (whB b t2 es) (whE b t2 es) = 0 := by
  have := pieces_match' b t t2 es I 0
  simpa using this
theorem pieces_agree' (b t t2 : Int) (es : List Ent) (I : Nat) (com : Int) (K : Nat) : Sn.agree ⟨1, 0, com, false, b, t, es.take I⟩ ⟨2, 0, com, false, b + K, t2, es.drop K⟩ = 0 := firstZ_none (pieces b t t2 es I K)
theorem pieces_agree (b t t2 : Int) (es : List Ent) (I : Nat) (com : Int) : Sn.agree ⟨1, 0, com, false, b, t, es.take I⟩ ⟨2, 0, com, false, b, t2, es⟩ = 0 := by
  have := pieces_agree' b t t2 es I com 0
  simpa using this

set_option maxHeartbeats 8000000 in
theorem made_any (b t : Int) (lv : Value) (es : List Ent) (i k com : Int) (w : World) (h : EntsR w lv es) (hlen : es.length * 48 ≤ 140737488355328) (hb : I64 b) (hi : I64 i) (hk : I64 k) :
    Calls Try.prog 8 #[viewV b t lv, .int .i64 i, .int .i64 k, .int .i64 com] w fun e w' => e = .returned (.bool true) ∧ w.grownBy w' none := by
  obtain ⟨a, c, rfl⟩ := h.len
  have HE := hid_mk (And.intro h (And.intro hlen (And.intro hb (And.intro hi hk))))
  clear h hlen hb hi hk
  have HV : Hid (viewV b t (.slice a es.length c) = .agg #[.int .i64 b, .int .i64 t, .slice a es.length c]) := hid_mk rfl
  unfold viewV
  have HA := hid_mk (And.intro (RB.new w b t (.slice a es.length c)) (World.grownBy_alloc w (.cells #[.int .i64 b, .int .i64 t, .slice a es.length c] 30) none))
  go_enter Try.func8, Try.ntmps8
  go_upto_region 1 with fail
  generalize w.alloc (.cells #[.int .i64 b, .int .i64 t, .slice a es.length c] 30) = w1 at *
  obtain ⟨q, hq⟩ : ∃ q, q = w.heap.size := ⟨_, rfl⟩
  rw [← hq] at HA ⊢
  have HQ := hid_mk (show w.heap.size ≤ q by omega)
  clear hq
  obtain ⟨v0, v1, v2⟩ := HA.out.1.cells
  go_wp2_with fail
  clear v0 v1 v2
  rw [← HV.out]
  refine (rrightV_any b t _ es w1 (HE.out.1.kept HA.out.2) (by have := HE.out.2.1; omega)).mono ?_
  rintro e w2 ⟨rfl, hg⟩
  have H2 := hid_mk (And.intro (HA.out.1.kept hg (by simp)) (grown_trans HA.out.2 hg))
  clear hg
  rcases Bool.eq_false_or_eq_true (rightV b t es) with hr | hr
  rotate_left
  · rw [hr]
    clear hr
    go_wp2_with fail
    refine (knows_any w2).mono ?_
    rintro e w3 ⟨rfl, hg⟩
    have H3 := hid_mk (grown_trans H2.out.2 hg)
    clear hg
    go_wp2_with fail
    go_ret
    exact ⟨rfl, H3.out⟩
  · obtain ⟨hb0, hb1, ht0, ht1, hl4, hgo⟩ := rightV_spec hr
    have HR := hid_mk (And.intro hr hgo)
    rw [hr]
    clear hgo hr
    obtain ⟨v0, v1, v2⟩ := H2.out.1.cells
    obtain ⟨n, hn⟩ : ∃ n, n = es.length := ⟨_, rfl⟩
    have HN := hid_mk hn
    rw [← hn] at hl4 v2
    rw [← hn]
    clear hn
    rcases Nat.eq_zero_or_pos n with hn0 | hn0
    · subst hn0
      go_wp2_with fail
      clear v0 v1 v2
      refine (knows_any w2).mono ?_
      rintro e w3 ⟨rfl, hg⟩
      have H3 := hid_mk (grown_trans H2.out.2 hg)
      clear hg
      go_wp2_with fail
      go_ret
      exact ⟨rfl, H3.out⟩
    · have hn0' : (0 : Int) < n := by omega
      have hl4' : (n : Int) ≤ 4096 := by omega
      go_upto_region 3 with fail
      clear v0 v1 v2
      have HCL : ∀ W, w2.grownBy W none → W.cell? ⟨q, 0, none⟩ = some (.int .i64 b) ∧ W.cell? ⟨q, 1, none⟩ = some (.int .i64 t) ∧ W.cell? ⟨q, 2, none⟩ = some (.slice a n c) := fun W hW => by rw [HN.out]; exact (H2.out.1.kept hW (by simp)).cells
      obtain ⟨m, I0, hI, hm0, w0, w1', w2', w3', w4', w5'⟩ := mod_facts i n hl4
      refine wp_region_mix [(0, true), (1, true), (2, true), (3, true), (4, true), (5, true), (6, true), (7, true), (8, true), (9, true), (10, true), (11, true), (12, true), (13, true), (14, true), (15, true), (16, true)] (at0 w2 (fun W => w2.grownBy W none)) (by kernel_rfl) (by kernel_rfl) rfl (by kernel_rfl) (shut_at0 (fun m => grown_drewN _ m none)) ⟨1, rfl⟩ ?_
      repeat (refine mix_rd1 rfl rfl (fun K hK => ?_); apply Exists.intro; refine ⟨fun W hW => ?_, ?_⟩; (obtain ⟨c0, c1, c2⟩ := HCL W hW; go_simp; rfl); (go_simp; refine hK _ _ ?_; clear hK K))
      refine mix_nil ?_
      rintro W ⟨mA, rfl⟩
      obtain ⟨w3, hw3⟩ : ∃ W, W = w2.drewN mA := ⟨_, rfl⟩
      have H3 := hid_mk (show RB w3 q b t (.slice a es.length c) ∧ w.grownBy w3 none from by rw [hw3]; exact ⟨H2.out.1.kept (grown_drewN w2 mA none) (by simp), grown_trans H2.out.2 (grown_drewN w2 mA none)⟩)
      rw [← hw3]
      clear hm0 w0 w1' w2' w3' w4' w5' hw3 HCL H2
      go_upto_region 4 with fail
      have HCL : ∀ W, w3.grownBy W none → W.cell? ⟨q, 0, none⟩ = some (.int .i64 b) ∧ W.cell? ⟨q, 1, none⟩ = some (.int .i64 t) ∧ W.cell? ⟨q, 2, none⟩ = some (.slice a n c) := fun W hW => by rw [HN.out]; exact (H3.out.1.kept hW (by simp)).cells
      obtain ⟨m2, K0, hK, hm0, w0, w1', w2', w3', w4', w5'⟩ := mod_facts k n hl4
      refine wp_region_mix [(0, true), (1, true), (2, true), (3, true), (4, true), (5, true), (6, true), (7, true), (8, true), (9, true), (10, true), (11, true), (12, true), (13, true), (14, true), (15, true), (16, true)] (at0 w3 (fun W => w3.grownBy W none)) (by kernel_rfl) (by kernel_rfl) rfl (by kernel_rfl) (shut_at0 (fun m => grown_drewN _ m none)) ⟨1, rfl⟩ ?_
      repeat (refine mix_rd1 rfl rfl (fun K hK => ?_); apply Exists.intro; refine ⟨fun W hW => ?_, ?_⟩; (obtain ⟨c0, c1, c2⟩ := HCL W hW; go_simp; rfl); (go_simp; refine hK _ _ ?_; clear hK K))
      refine mix_nil ?_
      rintro W ⟨mB, rfl⟩
      obtain ⟨w4, hw4⟩ : ∃ W, W = w3.drewN mB := ⟨_, rfl⟩
      have H4 := hid_mk (show RB w4 q b t (.slice a es.length c) ∧ w.grownBy w4 none from by rw [hw4]; exact ⟨H3.out.1.kept (grown_drewN w3 mB none) (by simp), grown_trans H3.out.2 (grown_drewN w3 mB none)⟩)
      rw [← hw4]
      clear hm0 w0 w1' w2' w3' w4' w5' hw4 HCL H3
      obtain ⟨sa, sc, hsl, hrs⟩ := (HE.out.1.kept H4.out.2).h I0 (by rw [← HN.out]; exact hI)
      rw [← HN.out] at hsl
      obtain ⟨s1, hs1⟩ : ∃ s : Sn, s = ⟨1, 0, com, false, b, t, es.take I0⟩ := ⟨_, rfl⟩
      have hse1 : s1.es.length = I0 := by rw [hs1]; show (es.take I0).length = I0; rw [List.length_take, ← HN.out]; omega
      have HS1 := hid_mk (show EntsR w4 (.slice sa I0 sc) s1.es ∧ s1.es.length = I0 ∧ s1 = ⟨1, 0, com, false, b, t, es.take I0⟩ from ⟨by rw [hs1]; exact hrs, hse1, hs1⟩)
      have HV1 : Hid (∀ lv, seenV s1 lv = .agg #[.int .i64 1, .int .i64 0, .int .i64 com, .bool false, .int .i64 b, .int .i64 t, lv]) := hid_mk fun lv => by rw [hs1]; rfl
      clear hrs hs1 hse1
      go_upto_region 5 with fail
      have HCL : ∀ W, w4.grownBy W none → W.cell? ⟨q, 0, none⟩ = some (.int .i64 b) ∧ W.cell? ⟨q, 1, none⟩ = some (.int .i64 t) ∧ W.cell? ⟨q, 2, none⟩ = some (.slice a n c) := fun W hW => by rw [HN.out]; exact (H4.out.1.kept hW (by simp)).cells
      have HX0 := hid_mk (show BS w4 w4 #[.int .i64 0, .int .i64 0, .int .i64 0, .bool false, .int .i64 0, .int .i64 0, .slice none 0 0] 28 none from ⟨grown_refl _ _, fun q e => by cases e⟩)
      go_cut [9] (fun s wx => ∃ (q9 : Nat) (va : Option Addr) (vc : Nat), s = .pointer (some ⟨q9, 0, none⟩) ∧ Hid (w4.grownBy wx none ∧ SB wx q9 28 s1 (.slice va I0 vc) ∧ (∃ ps, EO w wx (.slice va I0 vc) ps ∧ ps.map (·.1) = s1.es) ∧ w4.heap.size ≤ q9))
      case first =>
        refine wp_region_fork (X := fun _ _ _ => False) [(0, true), (1, true), (2, true), (3, true), (4, true), (5, true), (6, true), (7, true), (8, true), (9, true), (10, true)] 3 #[true, true, true, true, true, true, true, true, true, true, true, false, false, false] (cl w4 w4) (by kernel_rfl) (by kernel_rfl) rfl (by kernel_rfl) (fun _ _ _ h => h.elim) (shut_at0 (fun mm => grown_drewN _ mm _)) ⟨1, rfl⟩ ?_
        iterate 8 (refine mix_rd1X rfl rfl (fun K hK => ?_); apply Exists.intro; refine ⟨fun W hW => ?_, ?_⟩; (obtain ⟨c0, c1, c2⟩ := HCL W hW; go_simp; rfl); (go_simp; refine hK _ _ ?_; clear hK K))
        refine mix_rdX rfl rfl (.slice sa I0 sc) (fun W hW => by go_simp) ?_
        iterate 2 (refine mix_rd1X rfl rfl (fun K hK => ?_); apply Exists.intro; refine ⟨fun W hW => ?_, ?_⟩; (go_simp; rfl); (go_simp; refine hK _ _ ?_; clear hK K))
        refine mix_nilX ?_
        refine fork2 11 12 (by kernel_rfl) ?_ ?_
        · refine bs_call HX0.out 9 #[seenV s1 (.slice sa I0 sc)] (fun v W1 W' => ∃ va vc ps, v = seenV s1 (.slice va I0 vc) ∧ EO W1 W' (.slice va I0 vc) ps ∧ ps.map (·.1) = s1.es) rfl rfl (fun W => by rw [HV1.out]; go_simp) (fun W1 hW1 => (own_eo s1 _ W1 (HS1.out.1.kept (grown_trans HX0.out.gr hW1)) (by rw [HS1.out.2.1]; omega)).mono (by
            rintro e W' ⟨va, vc, ps, rfl, heo, hmap⟩
            rw [HS1.out.2.1] at heo ⊢
            exact ⟨_, rfl, ⟨va, vc, ps, rfl, heo, hmap⟩, heo.gr⟩)) ?_
          intro K hK v W1 Wc H3
          obtain ⟨hbs3, hg1, hg2, va, vc, ps, hv, heo, hmp⟩ := H3.out
          subst hv
          have HBC := hid_mk hbs3
          have HEO := hid_mk (show EO w4 Wc (.slice va I0 vc) ps ∧ ps.map (·.1) = s1.es from ⟨heo.base (grown_trans HX0.out.gr hg1), hmp⟩)
          clear hbs3 hg1 hg2 heo hmp H3
          rw [HV1.out]
          go_simp
          refine hK _ _ ?_
          clear hK K
          refine fork1 12 (by kernel_rfl) ?_
          refine bs_box #[.int .i64 0, .int .i64 0, .int .i64 0, .bool false, .int .i64 0, .int .i64 0, .slice none 0 0] HBC.out rfl rfl (fun W => by go_simp) ?_
          intro K hK q9 Wb HB4
          have HBB := hid_mk HB4.out.1
          have HEOB := hid_mk (HEO.out.1.kept HB4.out.2)
          go_simp
          refine hK _ _ ?_
          clear hK K
          refine fork1 13 (by kernel_rfl) ?_
          refine bs_store q9 HBB.out (seenC s1 (.slice va I0 vc)) (fun W => put7 W q9 s1 (.slice va I0 vc)) (fun W hb => put7_is hb s1 _) rfl rfl (fun W hb => by
            have e0 : W.cell? ⟨q9, 0, none⟩ = some (.int .i64 0) := hb.cell 0
            have e1 : W.cell? ⟨q9, 1, none⟩ = some (.int .i64 0) := hb.cell 1
            have e2 : W.cell? ⟨q9, 2, none⟩ = some (.int .i64 0) := hb.cell 2
            have e3 : W.cell? ⟨q9, 3, none⟩ = some (.bool false) := hb.cell 3
            have e4 : W.cell? ⟨q9, 4, none⟩ = some (.int .i64 0) := hb.cell 4
            have e5 : W.cell? ⟨q9, 5, none⟩ = some (.int .i64 0) := hb.cell 5
            have e6 : W.cell? ⟨q9, 6, none⟩ = some (.slice none 0 0) := hb.cell 6
            have ef := fun j => hb.frozen j
            unfold put7
            rw [HS1.out.2.2]
            first | (left; go_simp; done) | (right; apply Exists.intro; go_simp; rfl) | (right; apply Exists.intro; go_simp)) rfl ?_
          intro K hK Ws HS
          have HEO9 := hid_mk (show EO w4 Ws (.slice va I0 vc) ps from HEOB.out.but (HBB.out.box q9 rfl).1 (by decide) (by decide) HS.out.2.2.2 HS.out.2.1)
          refine hK _ _ ?_
          clear hK K
          refine fork_end (by kernel_rfl) ?_
          rintro Wz ⟨mz, rfl⟩
          go_wp2_with fail
          go_meet
          case rel => exact ⟨q9, va, vc, rfl, hid_mk ⟨grown_trans HS.out.1 (grown_drewN Ws mz none), Blk.kept HS.out.2.2.1 (grown_drewN Ws mz none) (by simp), ⟨ps, (HEO9.out.kept (grown_drewN Ws mz none)).base H4.out.2, HEO.out.2⟩, HS.out.2.2.2⟩⟩
        · refine bs_box #[.int .i64 0, .int .i64 0, .int .i64 0, .bool false, .int .i64 0, .int .i64 0, .slice none 0 0] HX0.out rfl rfl (fun W => by go_simp) ?_
          intro K hK q9 Wb HB4
          have HBB := hid_mk HB4.out.1
          go_simp
          refine hK _ _ ?_
          clear hK K
          refine fork1 11 (by kernel_rfl) ?_
          refine bs_call HBB.out 9 #[seenV s1 (.slice sa I0 sc)] (fun v W1 W' => ∃ va vc ps, v = seenV s1 (.slice va I0 vc) ∧ EO W1 W' (.slice va I0 vc) ps ∧ ps.map (·.1) = s1.es) rfl rfl (fun W => by rw [HV1.out]; go_simp) (fun W1 hW1 => (own_eo s1 _ W1 (HS1.out.1.kept (grown_trans HBB.out.gr hW1)) (by rw [HS1.out.2.1]; omega)).mono (by
            rintro e W' ⟨va, vc, ps, rfl, heo, hmap⟩
            rw [HS1.out.2.1] at heo ⊢
            exact ⟨_, rfl, ⟨va, vc, ps, rfl, heo, hmap⟩, heo.gr⟩)) ?_
          intro K hK v W1 Wc H3
          obtain ⟨hbs3, hg1, hg2, va, vc, ps, hv, heo, hmp⟩ := H3.out
          subst hv
          have HBC := hid_mk hbs3
          have HEO := hid_mk (show EO w4 Wc (.slice va I0 vc) ps ∧ ps.map (·.1) = s1.es from ⟨heo.base (grown_trans HBB.out.gr hg1), hmp⟩)
          clear hbs3 hg1 hg2 heo hmp H3
          rw [HV1.out]
          go_simp
          refine hK _ _ ?_
          clear hK K
          refine fork1 13 (by kernel_rfl) ?_
          refine bs_store q9 HBC.out (seenC s1 (.slice va I0 vc)) (fun W => put7 W q9 s1 (.slice va I0 vc)) (fun W hb => put7_is hb s1 _) rfl rfl (fun W hb => by
            have e0 : W.cell? ⟨q9, 0, none⟩ = some (.int .i64 0) := hb.cell 0
            have e1 : W.cell? ⟨q9, 1, none⟩ = some (.int .i64 0) := hb.cell 1
            have e2 : W.cell? ⟨q9, 2, none⟩ = some (.int .i64 0) := hb.cell 2
            have e3 : W.cell? ⟨q9, 3, none⟩ = some (.bool false) := hb.cell 3
            have e4 : W.cell? ⟨q9, 4, none⟩ = some (.int .i64 0) := hb.cell 4
            have e5 : W.cell? ⟨q9, 5, none⟩ = some (.int .i64 0) := hb.cell 5
            have e6 : W.cell? ⟨q9, 6, none⟩ = some (.slice none 0 0) := hb.cell 6
            have ef := fun j => hb.frozen j
            unfold put7
            rw [HS1.out.2.2]
            first | (left; go_simp; done) | (right; apply Exists.intro; go_simp; rfl) | (right; apply Exists.intro; go_simp)) rfl ?_
          intro K hK Ws HS
          have HEO9 := hid_mk (show EO w4 Ws (.slice va I0 vc) ps from HEO.out.1.but (HBC.out.box q9 rfl).1 (by decide) (by decide) HS.out.2.2.2 HS.out.2.1)
          refine hK _ _ ?_
          clear hK K
          refine fork_end (by kernel_rfl) ?_
          rintro Wz ⟨mz, rfl⟩
          go_wp2_with fail
          go_meet
          case rel => exact ⟨q9, va, vc, rfl, hid_mk ⟨grown_trans HS.out.1 (grown_drewN Ws mz none), Blk.kept HS.out.2.2.1 (grown_drewN Ws mz none) (by simp), ⟨ps, (HEO9.out.kept (grown_drewN Ws mz none)).base H4.out.2, HEO.out.2⟩, HS.out.2.2.2⟩⟩
      case rest =>
        obtain ⟨q9, va, vc, rfl, H5⟩ := hcut
        obtain ⟨ps1, hps1, hpm1⟩ := H5.out.2.2.1
        have HP1 := hid_mk (And.intro hps1 hpm1)
        clear hps1 hpm1
        clear HX0 HCL
        rename World => w5
        have H5W := hid_mk (show RB w5 q b t (.slice a es.length c) ∧ w.grownBy w5 none from ⟨H4.out.1.kept H5.out.1 (by simp), grown_trans H4.out.2 H5.out.1⟩)
        obtain ⟨s2, hs2⟩ : ∃ s : Sn, s = ⟨2, 0, com, false, b, t, es⟩ := ⟨_, rfl⟩
        have HS2 := hid_mk (show EntsR w5 (.slice a n c) s2.es ∧ s2.es.length = n ∧ s2 = ⟨2, 0, com, false, b, t, es⟩ from ⟨by rw [hs2, HN.out]; exact HE.out.1.kept H5W.out.2, by rw [hs2]; exact HN.out.symm, hs2⟩)
        have HV2 : Hid (∀ lv, seenV s2 lv = .agg #[.int .i64 2, .int .i64 0, .int .i64 com, .bool false, .int .i64 b, .int .i64 t, lv]) := hid_mk fun lv => by rw [hs2]; rfl
        clear hs2
        obtain ⟨v0, v1, v2⟩ := H5W.out.1.cells
        rw [← HN.out] at v2
        go_wp2_with fail
        clear v0 v1 v2
        rw [← HV2.out]
        refine (own_eo s2 _ w5 HS2.out.1 (by rw [HS2.out.2.1]; omega)).mono ?_
        rintro e w6 ⟨xa, xc, ps2, rfl, heo, hmap⟩
        rw [HS2.out.2.1] at heo ⊢
        have H6 := hid_mk (show EO w5 w6 (.slice xa n xc) ps2 ∧ ps2.map (·.1) = s2.es ∧ w5.grownBy w6 none from ⟨heo, hmap, heo.gr⟩)
        clear heo hmap
        have H7 := hid_mk (And.intro (SB.new w6 28 s2 (.slice xa n xc)) (World.grownBy_alloc w6 (.cells #[.int .i64 s2.id, .int .i64 s2.term, .int .i64 s2.com, .bool s2.lead, .int .i64 s2.b, .int .i64 s2.t, .slice xa n xc] 28) none))
        rw [HV2.out]
        rw [HS2.out.2.2] at H7
        dsimp only at H7
        go_upto_region 7 with fail
        have HW7 := hid_mk (show RB (w6.alloc (.cells #[.int .i64 2, .int .i64 0, .int .i64 com, .bool false, .int .i64 b, .int .i64 t, .slice xa n xc] 28)) q b t (.slice a n c) ∧ SB (w6.alloc (.cells #[.int .i64 2, .int .i64 0, .int .i64 com, .bool false, .int .i64 b, .int .i64 t, .slice xa n xc] 28)) q9 28 s1 (.slice va I0 vc) ∧ SB (w6.alloc (.cells #[.int .i64 2, .int .i64 0, .int .i64 com, .bool false, .int .i64 b, .int .i64 t, .slice xa n xc] 28)) w6.heap.size 28 ⟨2, 0, com, false, b, t, es⟩ (.slice xa n xc) ∧ EO w (w6.alloc (.cells #[.int .i64 2, .int .i64 0, .int .i64 com, .bool false, .int .i64 b, .int .i64 t, .slice xa n xc] 28)) (.slice va I0 vc) ps1 ∧ EO w (w6.alloc (.cells #[.int .i64 2, .int .i64 0, .int .i64 com, .bool false, .int .i64 b, .int .i64 t, .slice xa n xc] 28)) (.slice xa n xc) ps2 ∧ w.grownBy (w6.alloc (.cells #[.int .i64 2, .int .i64 0, .int .i64 com, .bool false, .int .i64 b, .int .i64 t, .slice xa n xc] 28)) none ∧ w.heap.size ≤ w6.heap.size ∧ q9 ≠ w6.heap.size ∧ q ≠ w6.heap.size from by
          have g7 := grown_trans H6.out.2.2 H7.out.2
          have hlt9 : q9 < w5.heap.size := Blk.lt H5.out.2.1
          have hltq := H5W.out.1.lt
          have hs6 := H6.out.2.2.size
          refine ⟨?_, H5.out.2.1.kept g7 (by simp), H7.out.1, ?_, (H6.out.1.kept H7.out.2).base H5W.out.2, grown_trans H5W.out.2 g7, ?_, by omega, by omega⟩
          · have h := H5W.out.1.kept g7 (row := none) (by simp); rw [← HN.out] at h; exact h
          · exact HP1.out.1.kept g7
          · have := H5W.out.2.size; omega)
        have HVV : Hid (∀ b t lv, Value.agg #[.int .i64 b, .int .i64 t, lv] = viewV b t lv) := hid_mk fun _ _ _ => rfl
        have HSV : Hid (∀ (s : Sn) lv, Value.agg #[.int .i64 s.id, .int .i64 s.term, .int .i64 s.com, .bool s.lead, .int .i64 s.b, .int .i64 s.t, lv] = seenV s lv) := hid_mk fun _ _ => rfl
        have HLN := hid_mk (show (es.take I0).length ≤ 10000000000000 ∧ (es.drop K0).length ≤ 10000000000000 ∧ es.length ≤ 10000000000000 ∧ I64 (b + K0) from ⟨by rw [List.length_take]; omega, by rw [List.length_drop]; have := HN.out; omega, by have := HN.out; omega, by constructor <;> omega⟩)
        have HPT := hid_mk (show ps1.map (·.1) = es.take I0 by have := HP1.out.2; rw [HS1.out.2.2] at this; exact this)
        have HPS := hid_mk (show ps2.map (·.1) = es by have := H6.out.2.1; rw [HS2.out.2.2] at this; exact this)
        generalize w6.alloc (.cells #[.int .i64 2, .int .i64 0, .int .i64 com, .bool false, .int .i64 b, .int .i64 t, .slice xa n xc] 28) = w7 at *
        obtain ⟨q10, hq10⟩ : ∃ q, q = w6.heap.size := ⟨_, rfl⟩
        rw [← hq10] at HW7 ⊢
        clear hq10 H7 H6 H5 H5W H4 HA
        rcases K0 with _ | j
        · have HZ := hid_mk (show SB w7 q9 28 s1 (.slice va I0 vc) ∧ SB w7 q10 28 ⟨2, 0, com, false, b, t, es⟩ (.slice xa n xc) ∧ EntsR w7 (.slice va I0 vc) (es.take I0) ∧ EntsR w7 (.slice xa n xc) es ∧ w.grownBy w7 none from ⟨HW7.out.2.1, HW7.out.2.2.1, by have := HW7.out.2.2.2.1.reads; rw [HPT.out] at this; exact this, by have := HW7.out.2.2.2.2.1.reads; rw [HPS.out] at this; exact this, HW7.out.2.2.2.2.2.1⟩)
          clear HW7
          go_upto_region 11 with fail
          obtain ⟨x0, x1, x2, x3, x4, x5, x6⟩ := HZ.out.1.cells
          obtain ⟨y0, y1, y2, y3, y4, y5, y6⟩ := HZ.out.2.1.cells
          rw [HS1.out.2.2] at x0 x1 x2 x3 x4 x5
          dsimp only at x0 x1 x2 x3 x4 x5 y0 y1 y2 y3 y4 y5
          go_wp2_with fail
          clear x0 x1 x2 x3 x4 x5 x6 y0 y1 y2 y3 y4 y5 y6
          rw [HVV.out b t (.slice va I0 vc), HVV.out b t (.slice xa n xc)]
          refine (match_any b t _ (es.take I0) b t _ es w7 HZ.out.2.2.1 HZ.out.2.2.2.1 HLN.out.1 HLN.out.2.1 HE.out.2.2.1 (by first | exact HE.out.2.2.1 | exact HLN.out.2.2.2)).mono ?_
          rintro e wm ⟨rfl, hg⟩
          rw [show matchZ (whB b t (es.take I0)) (whE b t (es.take I0)) (whB b t es) (whE b t es) = 0 from pieces_match b t t es I0]
          have HM := hid_mk (show w7.grownBy wm none from hg)
          obtain ⟨x0, x1, x2, x3, x4, x5, x6⟩ := (HZ.out.1.kept hg (by simp)).cells
          obtain ⟨y0, y1, y2, y3, y4, y5, y6⟩ := (HZ.out.2.1.kept hg (by simp)).cells
          rw [HS1.out.2.2] at x0 x1 x2 x3 x4 x5
          dsimp only at x0 x1 x2 x3 x4 x5 y0 y1 y2 y3 y4 y5
          clear hg
          unfold viewV
          go_wp2_with fail
          clear x0 x1 x2 x3 x4 x5 x6 y0 y1 y2 y3 y4 y5 y6
          rw [HSV.out ⟨1, 0, com, false, b, t, es.take I0⟩ (.slice va I0 vc), HSV.out ⟨2, 0, com, false, b, t, es⟩ (.slice xa n xc)]
          refine (agree_any ⟨1, 0, com, false, b, t, es.take I0⟩ ⟨2, 0, com, false, b, t, es⟩ _ _ wm (HZ.out.2.2.1.kept HM.out) (HZ.out.2.2.2.1.kept HM.out) HLN.out.1 HLN.out.2.1 HE.out.2.2.1 (by first | exact HE.out.2.2.1 | exact HLN.out.2.2.2)).mono ?_
          rintro e wa ⟨rfl, hg⟩
          rw [show Sn.agree ⟨1, 0, com, false, b, t, es.take I0⟩ ⟨2, 0, com, false, b, t, es⟩ = 0 from pieces_agree b t t es I0 com]
          have HG := hid_mk (show w.grownBy wa none from grown_trans HZ.out.2.2.2.2 (grown_trans HM.out hg))
          clear hg
          go_wp2_with fail
          refine (knows_any wa).mono ?_
          rintro e wk ⟨rfl, hg⟩
          have HK2 := hid_mk (grown_trans HG.out hg)
          clear hg
          go_wp2_with fail
          go_ret
          exact ⟨rfl, HK2.out⟩

        · obtain ⟨x, hx⟩ : ∃ x, es[j]? = some x := ⟨es[j]'(by rw [← HN.out]; omega), List.getElem?_eq_getElem _⟩
          have HXI := hid_mk (goB_at es HR.out.2 j x hx).1
          have gw7 := HW7.out.2.2.2.2.2.1
          obtain ⟨eb, eo, hae, -, hcs⟩ := HE.out.1.at (by rw [← HN.out]; omega)
          obtain ⟨dv, e0, e1, -, -, -, -⟩ := hcs j x hx
          subst hae
          have HEC : ∀ W, w.grownBy W none → W.cell? ⟨eb, eo + j * 4, none⟩ = some (.int .i64 x.term) ∧ W.cell? ⟨eb, eo + j * 4 + 1, none⟩ = some (.int .i64 x.index) := fun W hW => ⟨hW.cell e0 (by simp), hW.cell e1 (by simp)⟩
          clear e0 e1 hcs hx
          have hjn : (j : Int) < n := by omega
          have hj0 : (0 : Int) ≤ j := by omega
          have hjk : ((j + 1 : Nat) : Int) = (j : Int) + 1 := by omega
          -- the base
          obtain ⟨v0, v1, v2⟩ := HW7.out.1.cells
          obtain ⟨y0, y1, y2, y3, y4, y5, y6⟩ := HW7.out.2.2.1.cells
          have yf := Blk.frozen HW7.out.2.2.1 4
          obtain ⟨e0, e1⟩ := HEC w7 gw7
          go_upto_region 9 with fail
          clear v0 v1 v2 y0 y1 y2 y3 y4 y5 y6 yf e0 e1
          have hg8 : w7.grownBy (w7.setCell ⟨q10, 4, none⟩ (.int .i64 x.index)) (some q10) := grown_setCell _ _ _ _
          have HW8 := hid_mk (show RB (w7.setCell ⟨q10, 4, none⟩ (.int .i64 x.index)) q b t (.slice (some ⟨eb, eo, none⟩) n c) ∧ SB (w7.setCell ⟨q10, 4, none⟩ (.int .i64 x.index)) q9 28 s1 (.slice va I0 vc) ∧ SB (w7.setCell ⟨q10, 4, none⟩ (.int .i64 x.index)) q10 28 ⟨2, 0, com, false, x.index, t, es⟩ (.slice xa n xc) ∧ w7.grownBy (w7.setCell ⟨q10, 4, none⟩ (.int .i64 x.index)) (some q10) from
            ⟨HW7.out.1.kept hg8 (by simp; exact HW7.out.2.2.2.2.2.2.2.2), HW7.out.2.1.kept hg8 (by simp; exact HW7.out.2.2.2.2.2.2.2.1), SB.set4 HW7.out.2.2.1 x.index, hg8⟩)
          clear hg8
          generalize w7.setCell ⟨q10, 4, none⟩ (.int .i64 x.index) = w8 at *
          have gw8 := grown_new gw7 HW8.out.2.2.2 HW7.out.2.2.2.2.2.2.1
          -- the term
          obtain ⟨v0, v1, v2⟩ := HW8.out.1.cells
          obtain ⟨y0, y1, y2, y3, y4, y5, y6⟩ := HW8.out.2.2.1.cells
          have yf := Blk.frozen HW8.out.2.2.1 5
          obtain ⟨e0, e1⟩ := HEC w8 gw8
          go_upto_region 10 with fail
          clear v0 v1 v2 y0 y1 y2 y3 y4 y5 y6 yf e0 e1
          have hg9 : w8.grownBy (w8.setCell ⟨q10, 5, none⟩ (.int .i64 x.term)) (some q10) := grown_setCell _ _ _ _
          have HW9 := hid_mk (show SB (w8.setCell ⟨q10, 5, none⟩ (.int .i64 x.term)) q9 28 s1 (.slice va I0 vc) ∧ SB (w8.setCell ⟨q10, 5, none⟩ (.int .i64 x.term)) q10 28 ⟨2, 0, com, false, x.index, x.term, es⟩ (.slice xa n xc) ∧ w7.grownBy (w8.setCell ⟨q10, 5, none⟩ (.int .i64 x.term)) (some q10) from
            ⟨HW8.out.2.1.kept hg9 (by simp; exact HW7.out.2.2.2.2.2.2.2.1), SB.set5 HW8.out.2.2.1 x.term, grown_trans HW8.out.2.2.2 hg9⟩)
          clear hg9
          generalize w8.setCell ⟨q10, 5, none⟩ (.int .i64 x.term) = w9 at *
          -- the entries
          have hr7 : EntsR w7 (.slice xa n xc) es := by have h := HW7.out.2.2.2.2.1.reads; rw [HPS.out] at h; exact h
          have hln : j + 1 ≤ es.length := by rw [← HN.out]; omega
          obtain ⟨ya, yc, hsl7, -⟩ := hr7.l (j + 1) hln
          rw [← HN.out] at hsl7
          obtain ⟨yn, hyn⟩ : ∃ yn, yn = n - (j + 1) := ⟨_, rfl⟩
          rw [← hyn] at hsl7
          have HS7 := hid_mk (And.intro hsl7 (And.intro hyn hln))
          clear hr7 hln hyn
          rw [hjk] at hsl7
          obtain ⟨y0, y1, y2, y3, y4, y5, y6⟩ := HW9.out.2.1.cells
          have yf := Blk.frozen HW9.out.2.1 6
          go_upto_region 11 with fail
          clear y0 y1 y2 y3 y4 y5 y6 yf hsl7
          have hgA : w9.grownBy (w9.setCell ⟨q10, 6, none⟩ (.slice ya yn yc)) (some q10) := grown_setCell _ _ _ _
          have HWA := hid_mk (show SB (w9.setCell ⟨q10, 6, none⟩ (.slice ya yn yc)) q9 28 s1 (.slice va I0 vc) ∧ SB (w9.setCell ⟨q10, 6, none⟩ (.slice ya yn yc)) q10 28 ⟨2, 0, com, false, x.index, x.term, es.drop (j + 1)⟩ (.slice ya yn yc) ∧ w7.grownBy (w9.setCell ⟨q10, 6, none⟩ (.slice ya yn yc)) (some q10) from
            ⟨HW9.out.1.kept hgA (by simp; exact HW7.out.2.2.2.2.2.2.2.1), SB.set6 HW9.out.2.1 _ _, grown_trans HW9.out.2.2 hgA⟩)
          clear hgA
          generalize w9.setCell ⟨q10, 6, none⟩ (.slice ya yn yc) = wA at *
          have gwA := grown_new gw7 HWA.out.2.2 HW7.out.2.2.2.2.2.2.1
          have HZ := hid_mk (show SB wA q9 28 s1 (.slice va I0 vc) ∧ SB wA q10 28 ⟨2, 0, com, false, x.index, x.term, es.drop (j + 1)⟩ (.slice ya yn yc) ∧ EntsR wA (.slice va I0 vc) (es.take I0) ∧ EntsR wA (.slice ya yn yc) (es.drop (j + 1)) ∧ w.grownBy wA none from by
            refine ⟨HWA.out.1, HWA.out.2.1, ?_, ?_, gwA⟩
            · have heoA := HW7.out.2.2.2.1.but HW7.out.2.2.1 (by decide) (by decide) HW7.out.2.2.2.2.2.2.1 HWA.out.2.2
              have h := heoA.reads
              rw [HPT.out] at h
              exact h
            · have heoA := HW7.out.2.2.2.2.1.but HW7.out.2.2.1 (by decide) (by decide) HW7.out.2.2.2.2.2.2.1 HWA.out.2.2
              have hrA : EntsR wA (.slice xa n xc) es := by have h := heoA.reads; rw [HPS.out] at h; exact h
              obtain ⟨za, zc, hslA, hrdA⟩ := hrA.l (j + 1) HS7.out.2.2
              have hA := hslA wA
              rw [← HN.out, HS7.out.1 wA] at hA
              injection hA with he _
              rw [← HN.out] at hrdA
              rw [he]
              exact hrdA)
          rw [HXI.out] at HZ
          clear HW7 HW8 HW9 HWA HEC gw7 gw8 gwA hjk
          obtain ⟨x0, x1, x2, x3, x4, x5, x6⟩ := HZ.out.1.cells
          obtain ⟨y0, y1, y2, y3, y4, y5, y6⟩ := HZ.out.2.1.cells
          rw [HS1.out.2.2] at x0 x1 x2 x3 x4 x5
          dsimp only at x0 x1 x2 x3 x4 x5 y0 y1 y2 y3 y4 y5
          go_wp2_with fail
          clear x0 x1 x2 x3 x4 x5 x6 y0 y1 y2 y3 y4 y5 y6
          rw [HVV.out b t (.slice va I0 vc), HVV.out (b + 1 + j) x.term (.slice ya yn yc)]
          refine (match_any b t _ (es.take I0) (b + 1 + j) x.term _ (es.drop (j + 1)) wA HZ.out.2.2.1 HZ.out.2.2.2.1 HLN.out.1 HLN.out.2.1 HE.out.2.2.1 (by first | exact HE.out.2.2.1 | (have h := HLN.out.2.2.2; rw [show b + ((j + 1 : Nat) : Int) = b + 1 + j by push_cast; omega] at h; exact h))).mono ?_
          rintro e wm ⟨rfl, hg⟩
          rw [show matchZ (whB b t (es.take I0)) (whE b t (es.take I0)) (whB (b + 1 + j) x.term (es.drop (j + 1))) (whE (b + 1 + j) x.term (es.drop (j + 1))) = 0 from by rw [show b + 1 + (j : Int) = b + ((j + 1 : Nat) : Int) by push_cast; omega]; exact pieces_match' b t x.term es I0 (j + 1)]
          have HM := hid_mk (show wA.grownBy wm none from hg)
          obtain ⟨x0, x1, x2, x3, x4, x5, x6⟩ := (HZ.out.1.kept hg (by simp)).cells
          obtain ⟨y0, y1, y2, y3, y4, y5, y6⟩ := (HZ.out.2.1.kept hg (by simp)).cells
          rw [HS1.out.2.2] at x0 x1 x2 x3 x4 x5
          dsimp only at x0 x1 x2 x3 x4 x5 y0 y1 y2 y3 y4 y5
          clear hg
          unfold viewV
          go_wp2_with fail
          clear x0 x1 x2 x3 x4 x5 x6 y0 y1 y2 y3 y4 y5 y6
          rw [HSV.out ⟨1, 0, com, false, b, t, es.take I0⟩ (.slice va I0 vc), HSV.out ⟨2, 0, com, false, (b + 1 + j), x.term, (es.drop (j + 1))⟩ (.slice ya yn yc)]
          refine (agree_any ⟨1, 0, com, false, b, t, es.take I0⟩ ⟨2, 0, com, false, (b + 1 + j), x.term, (es.drop (j + 1))⟩ _ _ wm (HZ.out.2.2.1.kept HM.out) (HZ.out.2.2.2.1.kept HM.out) HLN.out.1 HLN.out.2.1 HE.out.2.2.1 (by first | exact HE.out.2.2.1 | (have h := HLN.out.2.2.2; rw [show b + ((j + 1 : Nat) : Int) = b + 1 + j by push_cast; omega] at h; exact h))).mono ?_
          rintro e wa ⟨rfl, hg⟩
          rw [show Sn.agree ⟨1, 0, com, false, b, t, es.take I0⟩ ⟨2, 0, com, false, (b + 1 + j), x.term, (es.drop (j + 1))⟩ = 0 from by rw [show b + 1 + (j : Int) = b + ((j + 1 : Nat) : Int) by push_cast; omega]; exact pieces_agree' b t x.term es I0 com (j + 1)]
          have HG := hid_mk (show w.grownBy wa none from grown_trans HZ.out.2.2.2.2 (grown_trans HM.out hg))
          clear hg
          go_wp2_with fail
          refine (knows_any wa).mono ?_
          rintro e wk ⟨rfl, hg⟩
          have HK2 := hid_mk (grown_trans HG.out hg)
          clear hg
          go_wp2_with fail
          go_ret
          exact ⟨rfl, HK2.out⟩


end Go.Proofs.Ytcijjepleedecaa.W
