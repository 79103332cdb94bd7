/- watch: first. -/
import Derived.Test.YtcijjepleedecaaWaC
namespace Go.Proofs.Ytcijjepleedecaa.W
open Go.RowKit Go.Maps
set_option linter.unusedVariables false
set_option linter.unusedSimpArgs false
set_option maxRecDepth 100000
attribute [local go_sem] Oper.semAt_some


theorem firstZ_at {most c : Int} {Z : List (Ent × Ent)} {k : Nat} {p : Ent × Ent} (hp : Z[k]? = some p) : firstZ most (Z.drop k) (c + 1 + k) = if most < c + 1 + k then 0 else if diffE p then c + 1 + k else firstZ most (Z.drop (k + 1)) (c + 1 + (k + 1 : Nat)) := by
  obtain ⟨hk, rfl⟩ := List.getElem?_eq_some_iff.1 hp
  rw [List.drop_eq_getElem_cons hk, firstZ, show c + 1 + ((k + 1 : Nat) : Int) = c + 1 + k + 1 by push_cast; omega]

set_option maxHeartbeats 4000000 in
theorem first_any (c most : Int) (x y : Value) (xs ys : List Ent) (w : World) (hx : EntsR w x xs) (hy : EntsR w y ys) (hl : xs.length = ys.length) (hle : xs.length ≤ 4096) (hc0 : 0 ≤ c) (hc1 : c ≤ 549755813888) :
    Calls Try.prog 28 #[comV c x y, .int .i64 most, .func (.func 29) #[] #[]] w fun e w' => e = .returned (.int .i64 (firstZ most (xs.zip ys) (c + 1))) ∧ w.grownBy w' none := by
  obtain ⟨xa, xc, rfl⟩ := hx.len
  obtain ⟨ya, yc, rfl⟩ := hy.len
  have HA := hid_mk (Two.new w c _ _ xs ys hx hy hl hle hc0 hc1)
  clear hx hy
  obtain ⟨n, hn⟩ : ∃ n, n = xs.length := ⟨_, rfl⟩
  have hny : ys.length = n := by omega
  rw [← hn] at hle HA
  rw [← hn]
  rw [hny] at HA
  rw [hny]
  have hzl : (xs.zip ys).length = n := by rw [List.length_zip]; omega
  obtain ⟨Z, hZ⟩ : ∃ Z, Z = xs.zip ys := ⟨_, rfl⟩
  rw [← hZ] at hzl
  rw [← hZ]
  have HZ := hid_mk (And.intro hZ hzl)
  clear hn hny hl hZ hzl
  unfold comV
  go_enter Try.func28, Try.ntmps28
  go_upto_region 1 with fail
  generalize w.alloc (.cells #[.int .i64 c, .slice xa n xc, .slice ya n yc] 61) = w1 at *
  obtain ⟨q, hq⟩ : ∃ q, q = w.heap.size := ⟨_, rfl⟩
  rw [← hq] at HA ⊢
  clear hq
  have b0 : w1.cell? ⟨q, 0, none⟩ = some (.int .i64 c) := HA.out.1.blk.cell 0
  have b1 : w1.cell? ⟨q, 1, none⟩ = some (.slice xa n xc) := HA.out.1.blk.cell 1
  have b2 : w1.cell? ⟨q, 2, none⟩ = some (.slice ya n yc) := HA.out.1.blk.cell 2
  go_wp2_with fail
  clear b0 b1 b2
  go_loopw [12] (fun iv wr => ∃ (k : Nat), k ≤ n ∧ iv = .int .i64 k ∧ Hid (w1.grownBy wr none ∧ firstZ most (Z.drop k) (c + 1 + k) = firstZ most Z (c + 1))) (fun iv _ => n - (intOf iv).toNat)
  case atStart => exact ⟨0, Nat.zero_le _, rfl, hid_mk ⟨grown_refl _ _, by simp⟩⟩
  case round =>
    obtain ⟨k, hk, rfl, H⟩ := hrel
    rename World => wr
    by_cases hkn : k < n
    · have hkn' : (k : Int) < n := by omega
      have hk4 : (k : Int) < 5000 := by omega
      obtain ⟨p, hp⟩ : ∃ p, Z[k]? = some p := ⟨Z[k]'(by rw [HZ.out.2]; exact hkn), List.getElem?_eq_getElem _⟩
      obtain ⟨e1, o1, e2, o2, d1, d2, rfl, rfl, hb1, hb2, hcl⟩ := (HA.out.1.kept H.out.1).at (show (xs.zip ys)[k]? = some p by rw [← HZ.out.1]; exact hp)
      obtain ⟨da1, dc1, rfl⟩ := hb1.len
      obtain ⟨da2, dc2, rfl⟩ := hb2.len
      have HP := hid_mk (And.intro hp (And.intro hb1 hb2))
      have HV := hid_mk (And.intro (entV_open p.1 (.slice da1 p.1.data.length dc1)) (entV_open p.2 (.slice da2 p.2.data.length dc2)))
      have H2 := hid_mk H.out.1
      clear hb1 hb2 hp
      obtain ⟨b0, b1, b2⟩ := (hcl wr (grown_refl wr none)).1
      by_cases hm : most < c + 1 + k
      · have HF := hid_mk (show firstZ most Z (c + 1) = 0 from by rw [← H.out.2, firstZ_at HP.out.1, if_pos hm])
        clear H
        go_wp2_with fail
        go_ret
        exact ⟨by rw [HF.out]; rfl, grown_trans HA.out.2 H2.out⟩
      · have HF := hid_mk (show firstZ most Z (c + 1) = if diffE p then c + 1 + k else firstZ most (Z.drop (k + 1)) (c + 1 + (k + 1 : Nat)) from by rw [← H.out.2, firstZ_at HP.out.1, if_neg hm])
        clear H
        go_upto_region 6 with fail
        clear b0 b1 b2
        refine wp_region_mix [(0, true), (1, true), (2, true), (3, true), (4, true), (5, true), (6, true), (7, true), (8, true), (9, true), (10, true), (11, false)] (at0 wr (fun W => wr.grownBy W none)) (by kernel_rfl) (by kernel_rfl) rfl (by kernel_rfl) (shut_at0 (fun m => grown_drewN _ m none)) ⟨1, rfl⟩ ?_
        iterate 11 (refine mix_rd1 rfl rfl (fun K hK => ?_); apply Exists.intro; refine ⟨fun W hW => ?_, ?_⟩; (obtain ⟨⟨c0, c1, c2⟩, ⟨c3, c4, c5, c6⟩, c7, c8, c9, c10⟩ := hcl W hW; go_simp; rfl); (go_simp; refine hK _ _ ?_; clear hK K))
        refine mix_call rfl rfl 29 #[entV p.1 (.slice da1 p.1.data.length dc1), entV p.2 (.slice da2 p.2.data.length dc2)] (fun W => by rw [HV.out.1, HV.out.2]; go_simp) ?_
        rintro W ⟨mA, rfl⟩
        refine (differ_any p.1 p.2 _ _ (wr.drewN mA) (HP.out.2.1.kept (grown_drewN _ mA none)) (HP.out.2.2.kept (grown_drewN _ mA none))).mono ?_
        rintro e wA ⟨rfl, hg⟩
        have GA := hid_mk (show wr.grownBy wA none from grown_trans (grown_drewN _ mA none) hg)
        clear hg
        refine ⟨_, rfl, at0 wA (fun W => wr.grownBy W none), ⟨0, rfl⟩, shut_at0 (all_kept GA.out), fun _ h => h, ?_⟩
        refine mix_nil ?_
        rintro W ⟨mB, rfl⟩
        have hgB : w1.grownBy (wA.drewN mB) none := grown_trans H2.out (grown_trans GA.out (grown_drewN _ mB none))
        generalize wA.drewN mB = wB at *
        have HB := hid_mk hgB
        clear hgB hcl
        rcases Bool.eq_false_or_eq_true (diffE (p.1, p.2)) with hs | hs
        · have HF2 := hid_mk (show firstZ most Z (c + 1) = c + 1 + k from by rw [HF.out]; exact if_pos hs)
          clear HF
          rw [hs]
          go_wp2_with fail
          go_ret
          exact ⟨by rw [HF2.out]; rfl, grown_trans HA.out.2 HB.out⟩
        · have HF2 := hid_mk (show firstZ most (Z.drop (k + 1)) (c + 1 + (k + 1 : Nat)) = firstZ most Z (c + 1) from by rw [HF.out]; exact (if_neg (by show ¬ diffE (p.1, p.2) = true; rw [hs]; decide)).symm)
          clear HF
          rw [hs]
          go_wp2_with fail
          go_roundw
          case rel => exact ⟨k + 1, by omega, by first | rfl | (congr 1; done) | (congr 1; omega), hid_mk ⟨HB.out, HF2.out⟩⟩
          case measure => simp [intOf]; try omega
    · have hkn' : ¬ (k : Int) < n := by omega
      have HF := hid_mk (show firstZ most Z (c + 1) = 0 ∧ w1.grownBy wr none from ⟨by rw [← H.out.2, List.drop_eq_nil_of_le (by rw [HZ.out.2]; omega)]; rfl, H.out.1⟩)
      clear H
      go_wp2
      go_ret
      exact ⟨by rw [HF.out.1]; rfl, grown_trans HA.out.2 HF.out.2⟩
end Go.Proofs.Ytcijjepleedecaa.W
