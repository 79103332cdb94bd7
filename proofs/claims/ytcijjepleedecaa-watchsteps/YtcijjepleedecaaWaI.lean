/- watch: the document's Leaders. -/
import Derived.Test.YtcijjepleedecaaKe
namespace Go.Proofs.Ytcijjepleedecaa.W
open Go.RowKit Go.Maps
set_option linter.unusedVariables false
set_option linter.unusedSimpArgs false
set_option maxRecDepth 100000
attribute [local go_sem] Oper.semAt_some


/-- None of the first ones led in one's term. -/
def anyTo (L : List Sn) (k : Nat) (s : Sn) : Prop := ∀ (j : Nat) r, j < k → L[j]? = some r → clash2 r s = false
theorem anyTo_succ {L : List Sn} {k : Nat} {s r : Sn} (h : anyTo L k s) (hr : L[k]? = some r) (hc : clash2 r s = false) : anyTo L (k + 1) s := fun j q hj hq => by
  rcases Nat.lt_or_ge j k with hlt | hge
  · exact h j q hlt hq
  · obtain rfl : j = k := by omega
    rw [hr] at hq; cases hq; exact hc
theorem anyTo_bad {L : List Sn} {k : Nat} {s : Sn} (h : anyTo L k s) : badL (L.take k) s = false := by
  unfold badL
  rw [List.any_eq_false]
  intro r hr
  obtain ⟨j, hj, rfl⟩ := List.mem_iff_getElem.1 hr
  rw [List.length_take] at hj
  have := h j ((L.take k)[j]'(by rw [List.length_take]; exact hj)) (by omega) (by rw [List.getElem_take]; exact List.getElem?_eq_getElem _)
  rw [this]; decide
theorem bad_of {L : List Sn} {j k : Nat} {r s : Sn} (hj : j < k) (hr : L[j]? = some r) (hc : clash2 r s = true) : badL (L.take k) s = true := by
  unfold badL
  rw [List.any_eq_true]
  exact ⟨r, by rw [List.mem_iff_getElem?]; exact ⟨j, by rw [List.getElem?_take_of_lt hj]; exact hr⟩, hc⟩

set_option maxHeartbeats 8000000 in
theorem rleaders_any (v : Value) (ss : List (Sn × Value)) (w : World) (h : SeensR w v ss) (hlen : ss.length ≤ 10000000000000) :
    Calls Try.prog 11 #[v] w fun e w' => ∃ z, e = .returned (.int .i64 z) ∧ Lead (ss.map (·.1)) z ∧ w.grownBy w' none := by
  obtain ⟨a, c, rfl⟩ := h.len
  obtain ⟨L, hL⟩ : ∃ L, L = ss.map (·.1) := ⟨_, rfl⟩
  have hLl : L.length = ss.length := by rw [hL, List.length_map]
  have HE := hid_mk (And.intro h (And.intro hL hLl))
  clear h hLl
  rw [← hL]
  clear hL
  go_enter Try.func11, Try.ntmps11
  go_wp2_with fail
  go_loopw [3] (fun iv wr => ∃ (i : Nat), i ≤ ss.length ∧ iv = .int .i64 i ∧ Hid (w.grownBy wr none ∧ fineTo L i)) (fun iv _ => ss.length - (intOf iv).toNat)
  case atStart => exact ⟨0, Nat.zero_le _, rfl, hid_mk ⟨grown_refl _ _, fineTo_zero L⟩⟩
  case round =>
    obtain ⟨i, hi, rfl, H⟩ := hrel
    rename World => wi
    by_cases hlt : i < ss.length
    · have hlt' : (i : Int) < ss.length := by omega
      have hi4 : (i : Int) < 20000000000000 := by omega
      obtain ⟨p, hp⟩ : ∃ p, ss[i]? = some p := ⟨ss[i], List.getElem?_eq_getElem hlt⟩
      obtain ⟨b, off, rfl, hcs⟩ := HE.out.1.at hp
      have hLi : L[i]? = some p.1 := by rw [HE.out.2.1, List.getElem?_map, hp]; rfl
      have HP := hid_mk (And.intro hcs hLi)
      clear hp hcs hLi
      go_wp2_with fail
      go_loopw [4] (fun kv wr => ∃ (k : Nat), k ≤ i ∧ kv = .int .i64 k ∧ Hid (w.grownBy wr none ∧ anyTo L k p.1)) (fun kv _ => i - (intOf kv).toNat)
      case atStart => exact ⟨0, Nat.zero_le _, rfl, hid_mk ⟨H.out.1, fun j r hj => by omega⟩⟩
      case round =>
        obtain ⟨k, hk, rfl, H2⟩ := hrel
        rename World => wr
        by_cases hki : k < i
        · have hki' : (k : Int) < i := by omega
          have hk4 : (k : Int) < 20000000000000 := by omega
          have hks : (k : Int) < ss.length := by omega
          obtain ⟨r, hr⟩ : ∃ r, ss[k]? = some r := ⟨ss[k], List.getElem?_eq_getElem (by omega)⟩
          obtain ⟨b', off', hbe, hcs⟩ := HE.out.1.at hr
          have hLk : L[k]? = some r.1 := by rw [HE.out.2.1, List.getElem?_map, hr]; rfl
          have HPk := hid_mk hLk
          have HCL : ∀ W, wr.grownBy W none → (W.cell? ⟨b, off + i * 7, none⟩ = some (.int .i64 p.1.id) ∧ W.cell? ⟨b, off + i * 7 + 1, none⟩ = some (.int .i64 p.1.term) ∧ W.cell? ⟨b, off + i * 7 + 3, none⟩ = some (.bool p.1.lead)) ∧ W.cell? ⟨b, off + k * 7, none⟩ = some (.int .i64 r.1.id) ∧ W.cell? ⟨b, off + k * 7 + 1, none⟩ = some (.int .i64 r.1.term) ∧ W.cell? ⟨b, off + k * 7 + 3, none⟩ = some (.bool r.1.lead) := fun W hW => by
            injection hbe with hbe
            injection hbe with e1 e2 _
            obtain ⟨x0, x1, _, x3, _⟩ := HP.out.1 W (grown_trans H2.out.1 hW)
            obtain ⟨y0, y1, _, y3, _⟩ := hcs W (grown_trans H2.out.1 hW)
            rw [e1, e2]
            exact ⟨⟨e1 ▸ e2 ▸ x0, e1 ▸ e2 ▸ x1, e1 ▸ e2 ▸ x3⟩, y0, y1, y3⟩
          clear hbe hcs hr hLk
          have hcl : clash2 r.1 p.1 = (p.1.lead && r.1.lead && (p.1.term == r.1.term) && (p.1.id != r.1.id)) := rfl
          have HCC := hid_mk hcl
          clear hcl
          rcases Bool.eq_false_or_eq_true p.1.lead with g0 | g0
          rotate_left
          · have HN := hid_mk (anyTo_succ (s := p.1) H2.out.2 HPk.out (show clash2 r.1 p.1 = false from by rw [HCC.out, g0]; simp))
            go_upto_region 7 with fail
            refine wp_region_mix [(0, true), (1, true), (2, true), (3, true), (4, true), (5, true), (6, true), (7, true), (8, true), (9, true), (10, true), (11, true), (12, true), (13, true), (14, true), (15, true), (16, true), (17, true), (18, true), (19, true), (20, true), (21, true), (22, true), (23, true), (24, true), (25, true), (26, true), (27, true), (28, true), (29, true), (30, true), (31, true), (32, true), (33, true), (34, true), (35, true), (36, true), (37, true)] (at0 wr (fun W => wr.grownBy W none)) (by kernel_rfl) (by kernel_rfl) rfl (by kernel_rfl) (shut_at0 (fun m => grown_drewN _ m none)) ⟨1, rfl⟩ ?_
            repeat (first | (refine mix_rd1 rfl rfl (fun K hK => ?_); apply Exists.intro; refine ⟨fun W hW => ?_, ?_⟩; (obtain ⟨c0, c1, c2, c3⟩ := HCL W hW; go_simp; rfl); (go_simp; refine hK _ _ ?_; clear hK K)) | (refine mix_no1 rfl rfl (fun K hK => ?_); go_simp; refine hK _ _ ?_; clear hK K))
            refine mix_nil ?_
            rintro W ⟨mB, rfl⟩
            have HB := hid_mk (grown_trans H2.out.1 (grown_drewN wr mB none))
            generalize wr.drewN mB = wB at *
            go_wp2_with fail
            go_roundw
            case rel => exact ⟨k + 1, by omega, by first | rfl | (congr 1; done) | (congr 1; omega), hid_mk ⟨HB.out, HN.out⟩⟩
            case measure => simp [intOf]; omega

          · skip
            rcases Bool.eq_false_or_eq_true r.1.lead with g1 | g1
            rotate_left
            · have HN := hid_mk (anyTo_succ (s := p.1) H2.out.2 HPk.out (show clash2 r.1 p.1 = false from by rw [HCC.out, g0, g1]; simp))
              go_upto_region 7 with fail
              refine wp_region_mix [(0, true), (1, true), (2, true), (3, true), (4, true), (5, true), (6, true), (7, true), (8, true), (9, true), (10, true), (11, true), (12, true), (13, true), (14, true), (15, true), (16, true), (17, true), (18, true), (19, true), (20, true), (21, true), (22, true), (23, true), (24, true), (25, true), (26, true), (27, true), (28, true), (29, true), (30, true), (31, true), (32, true), (33, true), (34, true), (35, true), (36, true), (37, true)] (at0 wr (fun W => wr.grownBy W none)) (by kernel_rfl) (by kernel_rfl) rfl (by kernel_rfl) (shut_at0 (fun m => grown_drewN _ m none)) ⟨1, rfl⟩ ?_
              repeat (first | (refine mix_rd1 rfl rfl (fun K hK => ?_); apply Exists.intro; refine ⟨fun W hW => ?_, ?_⟩; (obtain ⟨c0, c1, c2, c3⟩ := HCL W hW; go_simp; rfl); (go_simp; refine hK _ _ ?_; clear hK K)) | (refine mix_no1 rfl rfl (fun K hK => ?_); go_simp; refine hK _ _ ?_; clear hK K))
              refine mix_nil ?_
              rintro W ⟨mB, rfl⟩
              have HB := hid_mk (grown_trans H2.out.1 (grown_drewN wr mB none))
              generalize wr.drewN mB = wB at *
              go_wp2_with fail
              go_roundw
              case rel => exact ⟨k + 1, by omega, by first | rfl | (congr 1; done) | (congr 1; omega), hid_mk ⟨HB.out, HN.out⟩⟩
              case measure => simp [intOf]; omega

            · skip
              rcases Bool.eq_false_or_eq_true (p.1.term == r.1.term) with g2 | g2
              rotate_left
              · have HN := hid_mk (anyTo_succ (s := p.1) H2.out.2 HPk.out (show clash2 r.1 p.1 = false from by rw [HCC.out, g0, g1, g2]; simp))
                go_upto_region 7 with fail
                refine wp_region_mix [(0, true), (1, true), (2, true), (3, true), (4, true), (5, true), (6, true), (7, true), (8, true), (9, true), (10, true), (11, true), (12, true), (13, true), (14, true), (15, true), (16, true), (17, true), (18, true), (19, true), (20, true), (21, true), (22, true), (23, true), (24, true), (25, true), (26, true), (27, true), (28, true), (29, true), (30, true), (31, true), (32, true), (33, true), (34, true), (35, true), (36, true), (37, true)] (at0 wr (fun W => wr.grownBy W none)) (by kernel_rfl) (by kernel_rfl) rfl (by kernel_rfl) (shut_at0 (fun m => grown_drewN _ m none)) ⟨1, rfl⟩ ?_
                repeat (first | (refine mix_rd1 rfl rfl (fun K hK => ?_); apply Exists.intro; refine ⟨fun W hW => ?_, ?_⟩; (obtain ⟨c0, c1, c2, c3⟩ := HCL W hW; go_simp; rfl); (go_simp; refine hK _ _ ?_; clear hK K)) | (refine mix_no1 rfl rfl (fun K hK => ?_); go_simp; refine hK _ _ ?_; clear hK K))
                refine mix_nil ?_
                rintro W ⟨mB, rfl⟩
                have HB := hid_mk (grown_trans H2.out.1 (grown_drewN wr mB none))
                generalize wr.drewN mB = wB at *
                go_wp2_with fail
                go_roundw
                case rel => exact ⟨k + 1, by omega, by first | rfl | (congr 1; done) | (congr 1; omega), hid_mk ⟨HB.out, HN.out⟩⟩
                case measure => simp [intOf]; omega

              · skip
                rcases Bool.eq_false_or_eq_true (p.1.id != r.1.id) with g3 | g3
                rotate_left
                · have HN := hid_mk (anyTo_succ (s := p.1) H2.out.2 HPk.out (show clash2 r.1 p.1 = false from by rw [HCC.out, g0, g1, g2, g3]; simp))
                  go_upto_region 7 with fail
                  refine wp_region_mix [(0, true), (1, true), (2, true), (3, true), (4, true), (5, true), (6, true), (7, true), (8, true), (9, true), (10, true), (11, true), (12, true), (13, true), (14, true), (15, true), (16, true), (17, true), (18, true), (19, true), (20, true), (21, true), (22, true), (23, true), (24, true), (25, true), (26, true), (27, true), (28, true), (29, true), (30, true), (31, true), (32, true), (33, true), (34, true), (35, true), (36, true), (37, true)] (at0 wr (fun W => wr.grownBy W none)) (by kernel_rfl) (by kernel_rfl) rfl (by kernel_rfl) (shut_at0 (fun m => grown_drewN _ m none)) ⟨1, rfl⟩ ?_
                  repeat (first | (refine mix_rd1 rfl rfl (fun K hK => ?_); apply Exists.intro; refine ⟨fun W hW => ?_, ?_⟩; (obtain ⟨c0, c1, c2, c3⟩ := HCL W hW; go_simp; rfl); (go_simp; refine hK _ _ ?_; clear hK K)) | (refine mix_no1 rfl rfl (fun K hK => ?_); go_simp; refine hK _ _ ?_; clear hK K))
                  refine mix_nil ?_
                  rintro W ⟨mB, rfl⟩
                  have HB := hid_mk (grown_trans H2.out.1 (grown_drewN wr mB none))
                  generalize wr.drewN mB = wB at *
                  go_wp2_with fail
                  go_roundw
                  case rel => exact ⟨k + 1, by omega, by first | rfl | (congr 1; done) | (congr 1; omega), hid_mk ⟨HB.out, HN.out⟩⟩
                  case measure => simp [intOf]; omega

                · skip
                  have HBD := hid_mk (bad_of hki HPk.out (show clash2 r.1 p.1 = true from by rw [HCC.out, g0, g1, g2, g3]; rfl))
                  go_upto_region 7 with fail
                  refine wp_region_mix [(0, true), (1, true), (2, true), (3, true), (4, true), (5, true), (6, true), (7, true), (8, true), (9, true), (10, true), (11, true), (12, true), (13, true), (14, true), (15, true), (16, true), (17, true), (18, true), (19, true), (20, true), (21, true), (22, true), (23, true), (24, true), (25, true), (26, true), (27, true), (28, true), (29, true), (30, true), (31, true), (32, true), (33, true), (34, true), (35, true), (36, true), (37, true)] (at0 wr (fun W => wr.grownBy W none)) (by kernel_rfl) (by kernel_rfl) rfl (by kernel_rfl) (shut_at0 (fun m => grown_drewN _ m none)) ⟨1, rfl⟩ ?_
                  repeat (first | (refine mix_rd1 rfl rfl (fun K hK => ?_); apply Exists.intro; refine ⟨fun W hW => ?_, ?_⟩; (obtain ⟨c0, c1, c2, c3⟩ := HCL W hW; go_simp; rfl); (go_simp; refine hK _ _ ?_; clear hK K)) | (refine mix_no1 rfl rfl (fun K hK => ?_); go_simp; refine hK _ _ ?_; clear hK K))
                  refine mix_nil ?_
                  rintro W ⟨mB, rfl⟩
                  have HB := hid_mk (grown_trans H2.out.1 (grown_drewN wr mB none))
                  generalize wr.drewN mB = wB at *
                  go_wp2_with fail
                  go_ret
                  exact ⟨i, rfl, .inl ⟨i, p.1, HP.out.2, HBD.out, H.out.2, rfl⟩, HB.out⟩

        · have hki' : ¬ (k : Int) < i := by omega
          have hke : k = i := by omega
          subst hke
          have HN := hid_mk (And.intro H2.out.1 (fineTo_succ H.out.2 HP.out.2 (anyTo_bad H2.out.2)))
          clear H2 H
          go_wp2_with fail
          go_roundw
          case rel => exact ⟨k + 1, by omega, by first | rfl | (congr 1; done) | (congr 1; omega), HN⟩
          case measure => simp [intOf]; omega
    · have hlt' : ¬ (i : Int) < ss.length := by omega
      have hie : i = ss.length := by omega
      have HF := hid_mk (show w.grownBy wi none ∧ fineTo L L.length from ⟨H.out.1, by rw [HE.out.2.2, ← hie]; exact H.out.2⟩)
      clear hie H
      go_wp2
      go_ret
      exact ⟨-1, rfl, .inr ⟨HF.out.2, rfl⟩, HF.out.1⟩
end Go.Proofs.Ytcijjepleedecaa.W
