/- client: the law's own answer. -/
import Derived.Test.YtgebhomiehadmaaCcR
namespace Go.Proofs.Ytgebhomiehadmaa
open Go.RowKit Go.Maps
set_option linter.unusedVariables false
set_option linter.unusedSimpArgs false
set_option maxRecDepth 100000

def ansD (a : Ans) (v : Value) : Array Value := #[.int .i64 a.id, .int .i64 a.e, .int .i64 a.se, .int .i64 a.nu, .int .i64 a.le, v]
/-- While it is made. -/
structure AnsM (w W : World) (q : Nat) (a : Ans) (v : Value) (R : List RV) (k : Nat) (vk : Value) (Rk : List RV) : Prop where
  gr : w.grownBy W none
  box : Blk W q (ansD a v) 38
  res : Blk W (q + 1) #[.int .i64 0, .int .i64 0, .int .i64 0, .int .i64 0, .slice none 0 0, .int .i64 0] 44
  out : Blk W (q + 2) (ansL a vk) 44
  own : OwnRec W q vk Rk
  fst : Rk.map (·.1) = (R.take k).map (·.1)
theorem AnsM.kept {w W W' : World} {q : Nat} {a : Ans} {v : Value} {R : List RV} {k : Nat} {vk : Value} {Rk : List RV} (h : AnsM w W q a v R k vk Rk) (hg : W.grownBy W' none) : AnsM w W' q a v R k vk Rk :=
  ⟨grown_trans h.gr hg, h.box.kept hg (by simp), h.res.kept hg (by simp), h.out.kept hg (by simp), h.own.kept hg, h.fst⟩
theorem AnsM.few {w W : World} {q : Nat} {a : Ans} {v : Value} {R : List RV} {k : Nat} {vk : Value} {Rk : List RV} (h : AnsM w W q a v R k vk Rk) (hk : k ≤ R.length) : Rk.length = k := by
  have := congrArg List.length h.fst
  simpa [Nat.min_eq_left hk] using this
set_option maxHeartbeats 8000000 in
theorem answer_any {w : World} {v : Value} {R : List RV} (a : Ans) (h : RecR w v R) (hl : R.length ≤ 5864062014805) (hb : ∀ p ∈ R, p.1.length ≤ 140737488355328) :
    Calls Try.prog 19 #[.agg (ansD a v)] w fun e w' => ∃ v', e = .returned (.agg (ansL a v')) ∧ ∃ R', OwnRec w' w.heap.size v' R' ∧ R'.map (·.1) = R.map (·.1) ∧ w.grownBy w' none := by
  obtain ⟨va, vc, rfl⟩ := h.len
  have HY := hid_mk (And.intro h hb)
  have g2 := ga2 w (.cells (ansD a (.slice va R.length vc)) 38) (.cells #[.int .i64 0, .int .i64 0, .int .i64 0, .int .i64 0, .slice none 0 0, .int .i64 0] 44)
  have b2 := blk_alloc2 w (ansD a (.slice va R.length vc)) #[.int .i64 0, .int .i64 0, .int .i64 0, .int .i64 0, .slice none 0 0, .int .i64 0] 38 44
  have g3 := World.grownBy_alloc ((w.alloc (.cells (ansD a (.slice va R.length vc)) 38)).alloc (.cells #[.int .i64 0, .int .i64 0, .int .i64 0, .int .i64 0, .slice none 0 0, .int .i64 0] 44)) (.cells (ansL a (.slice none 0 0)) 44) none
  have b3 := blk_alloc ((w.alloc (.cells (ansD a (.slice va R.length vc)) 38)).alloc (.cells #[.int .i64 0, .int .i64 0, .int .i64 0, .int .i64 0, .slice none 0 0, .int .i64 0] 44)) (ansL a (.slice none 0 0)) 44
  have H0 := hid_mk (AnsM.mk (w := w) (a := a) (v := .slice va R.length vc) (R := R) (k := 0) (vk := .slice none 0 0) (Rk := []) (grown_trans g2 g3) (b2.1.kept g3 (by simp)) (b2.2.kept g3 (by simp)) (by simpa using b3) (OwnRec.nil _ _) rfl)
  clear h hb g2 b2 g3 b3
  obtain ⟨id, ee, se, nu, le, rs⟩ := a
  unfold ansD ansL at *
  simp only at *
  go_enter Try.func19, Try.ntmps19
  go_wp2_with fail
  generalize hw1 : ((w.alloc (.cells #[.int .i64 id, .int .i64 ee, .int .i64 se, .int .i64 nu, .int .i64 le, .slice va R.length vc] 38)).alloc (.cells #[.int .i64 0, .int .i64 0, .int .i64 0, .int .i64 0, .slice none 0 0, .int .i64 0] 44)).alloc (.cells #[.int .i64 id, .int .i64 ee, .int .i64 se, .int .i64 nu, .slice none 0 0, .int .i64 le] 44) = w1 at *
  clear hw1
  generalize hq : w.heap.size = q at *
  have HQ := hid_mk hq
  clear hq
  go_loopg [4] R.length (fun g iv W => ∃ (k : Nat) (vk : Value) (Rk : List RV), k ≤ R.length ∧ g = R.length - k ∧ iv = .int .i64 k ∧ Hid (AnsM w W q ⟨id, ee, se, nu, le, rs⟩ (.slice va R.length vc) R k vk Rk))
  case atStart => exact ⟨0, .slice none 0 0, [], Nat.zero_le _, rfl, rfl, H0⟩
  case round =>
    obtain ⟨k, vk, Rk, hk, hgk, rfl, H⟩ := hrel
    rename World => W
    clear H0
    obtain ⟨x0, x1, x2, x3, x4, x5, xf⟩ := blk6 (show Blk W q #[.int .i64 id, .int .i64 ee, .int .i64 se, .int .i64 nu, .int .i64 le, .slice va R.length vc] 38 from H.out.box)
    by_cases hlt : k < R.length
    · have hlt' : (k : Int) < R.length := by omega
      obtain ⟨⟨pb, pv⟩, hp⟩ : ∃ p, R[k]? = some p := ⟨_, List.getElem?_eq_getElem hlt⟩
      obtain ⟨gb, off, cap, hv, hcx⟩ := HY.out.1.get k hlt
      clear hcx
      injection hv with hv1 hv2 hv3
      clear hv2 hv3
      subst hv1
      have hmem := List.mem_of_getElem? hp
      have HP := hid_mk (And.intro hp (And.intro (HY.out.1.2 _ hmem) (HY.out.2 _ hmem)))
      obtain ⟨sa, sc, hsv⟩ := (HY.out.1.2 _ hmem).len
      simp only at hsv
      subst hsv
      have HCK := hid_mk (fun (W' : World) (hW : w.grownBy W' none) => show W'.cell? ⟨gb, off + k, none⟩ = some (.slice sa pb.length sc) from by
        obtain ⟨b', off', cap', e, hc⟩ := (HY.out.1.kept hW).get k hlt
        injection e with e1 _ _
        injection e1 with e1
        injection e1 with e1 e2 _
        subst e1 e2
        rw [hc]
        rw [List.getElem?_eq_getElem hlt] at hp
        injection hp with hp
        rw [hp])
      have HLT := hid_mk hlt
      clear hmem hp hlt
      go_upto_region 5 with fail
      clear x0 x1 x2 x3 x4 x5 xf
      obtain ⟨ka, kc, hvk⟩ := H.out.own.len
      have hfew := H.out.few hk
      rw [hfew] at hvk
      subst hvk
      clear hfew
      have HC := hid_mk (fun (W' : World) (hW : w.grownBy W' none ∧ Blk W' q #[.int .i64 id, .int .i64 ee, .int .i64 se, .int .i64 nu, .int .i64 le, .slice (some ⟨gb, off, none⟩) R.length vc] 38 ∧ Blk W' (q + 2) #[.int .i64 id, .int .i64 ee, .int .i64 se, .int .i64 nu, .slice ka k kc, .int .i64 le] 44) => And.intro (blk6 hW.2.1).2.2.2.2.2.1 (And.intro (blk6 hW.2.2).2.2.2.2.1 (HCK.out W' hW.1)))
      refine wp_region_mixL [(0, true), (1, true), (3, true), (4, true), (5, true), (6, true), (7, true), (2, false), (8, false), (9, false), (10, false), (11, true)] 12 (at0 W (fun W' => w.grownBy W' none ∧ Blk W' q #[.int .i64 id, .int .i64 ee, .int .i64 se, .int .i64 nu, .int .i64 le, .slice (some ⟨gb, off, none⟩) R.length vc] 38 ∧ Blk W' (q + 2) #[.int .i64 id, .int .i64 ee, .int .i64 se, .int .i64 nu, .slice ka k kc, .int .i64 le] 44)) (by kernel_rfl) (by kernel_rfl) rfl (by kernel_rfl) rfl (by kernel_rfl) (shut_at0 (fun m => ⟨(H.out.kept (grown_drewN _ m none)).gr, (H.out.kept (grown_drewN _ m none)).box, (H.out.kept (grown_drewN _ m none)).out⟩)) ⟨1, rfl⟩ ?_
      repeat (refine mix_rd1 rfl rfl (fun K hK => ?_); apply Exists.intro; refine ⟨fun W' hW => ?_, ?_⟩; (obtain ⟨x5, z4, ck⟩ := HC.out W' hW; go_simp; rfl); (go_simp; refine hK _ _ ?_; clear hK K))
      refine mix_do rfl rfl ?_
      rintro W0 ⟨m1, rfl⟩
      refine ⟨.slice (some ⟨W.heap.size, 0, none⟩) 0 0, (W.drewN m1).alloc (.cells #[] 5), by go_simp, ?_⟩
      have G2 := grown_trans (grown_drewN W m1 none) (World.grownBy_alloc (W.drewN m1) (.cells #[] 5) none)
      have H2 := hid_mk (And.intro G2 (show Own ((W.drewN m1).alloc (.cells #[] 5)) W.heap.size (.slice (some ⟨W.heap.size, 0, none⟩) 0 0) [] from own_empty (W.drewN m1)))
      clear G2
      generalize (W.drewN m1).alloc (.cells #[] 5) = w2 at *
      refine ⟨at0 w2 (fun W' => w.grownBy W' none ∧ Blk W' q #[.int .i64 id, .int .i64 ee, .int .i64 se, .int .i64 nu, .int .i64 le, .slice (some ⟨gb, off, none⟩) R.length vc] 38 ∧ Blk W' (q + 2) #[.int .i64 id, .int .i64 ee, .int .i64 se, .int .i64 nu, .slice ka k kc, .int .i64 le] 44), ⟨0, rfl⟩, shut_at0 (fun m => ⟨(H.out.kept (grown_trans H2.out.1 (grown_drewN _ m none))).gr, (H.out.kept (grown_trans H2.out.1 (grown_drewN _ m none))).box, (H.out.kept (grown_trans H2.out.1 (grown_drewN _ m none))).out⟩), fun _ h => h, ?_⟩
      go_simp
      refine mix_do rfl rfl ?_
      rintro W0 ⟨m2, rfl⟩
      obtain ⟨a', c', w3, hr, ho3, hg3⟩ := run_copyB (own_grown H2.out.2 (grown_drewN w2 m2 none)) (H2.out.1.size) (HP.out.2.1.kept (grown_trans H.out.gr (grown_trans H2.out.1 (grown_drewN w2 m2 none)))) HP.out.2.2 33
      refine ⟨_, _, exec_app (s := .tmp 25) (y := .tmp 30) rfl rfl rfl hr, ?_⟩
      have H3 := hid_mk (And.intro (grown_new (grown_trans H2.out.1 (grown_drewN w2 m2 none)) hg3 (Nat.le_refl _)) ho3)
      clear ho3 hg3 hr
      refine ⟨at0 w3 (fun W' => w.grownBy W' none ∧ Blk W' q #[.int .i64 id, .int .i64 ee, .int .i64 se, .int .i64 nu, .int .i64 le, .slice (some ⟨gb, off, none⟩) R.length vc] 38 ∧ Blk W' (q + 2) #[.int .i64 id, .int .i64 ee, .int .i64 se, .int .i64 nu, .slice ka k kc, .int .i64 le] 44), ⟨0, rfl⟩, shut_at0 (fun m => ⟨(H.out.kept (grown_trans H3.out.1 (grown_drewN _ m none))).gr, (H.out.kept (grown_trans H3.out.1 (grown_drewN _ m none))).box, (H.out.kept (grown_trans H3.out.1 (grown_drewN _ m none))).out⟩), fun _ h => h, ?_⟩
      go_simp
      refine mix_do rfl rfl ?_
      rintro W0 ⟨m3, rfl⟩
      refine ⟨.slice (some ⟨w3.heap.size, 0, none⟩) 1 1, (w3.drewN m3).alloc (.cells #[.slice a' pb.length c'] 33), by go_simp, ?_⟩
      have G4 := grown_trans (grown_drewN w3 m3 none) (World.grownBy_alloc (w3.drewN m3) (.cells #[.slice a' pb.length c'] 33) none)
      have H4 := hid_mk (And.intro (grown_trans H3.out.1 G4) (And.intro (own_grown H3.out.2 G4) (show Blk ((w3.drewN m3).alloc (.cells #[.slice a' pb.length c'] 33)) w3.heap.size #[.slice a' pb.length c'] 33 from blk_alloc (w3.drewN m3) _ _)))
      clear G4
      generalize (w3.drewN m3).alloc (.cells #[.slice a' pb.length c'] 33) = w4 at *
      generalize w3.heap.size = q4 at *
      refine ⟨at0 w4 (fun W' => w.grownBy W' none ∧ Blk W' q #[.int .i64 id, .int .i64 ee, .int .i64 se, .int .i64 nu, .int .i64 le, .slice (some ⟨gb, off, none⟩) R.length vc] 38 ∧ Blk W' (q + 2) #[.int .i64 id, .int .i64 ee, .int .i64 se, .int .i64 nu, .slice ka k kc, .int .i64 le] 44), ⟨0, rfl⟩, shut_at0 (fun m => ⟨(H.out.kept (grown_trans H4.out.1 (grown_drewN _ m none))).gr, (H.out.kept (grown_trans H4.out.1 (grown_drewN _ m none))).box, (H.out.kept (grown_trans H4.out.1 (grown_drewN _ m none))).out⟩), fun _ h => h, ?_⟩
      go_simp
      refine mix_do rfl rfl ?_
      rintro W0 ⟨m4, rfl⟩
      have hM := H.out.kept (grown_trans H4.out.1 (grown_drewN w4 m4 none))
      have hqs : q ≤ W.heap.size := by have h1 := H.out.gr.size; have h2 := HQ.out; omega
      have hM2 : q ≤ (w4.drewN m4).heap.size := by have h1 := hM.gr.size; have h2 := HQ.out; omega
      obtain ⟨a2, c2, w5, hr, ho5, hg5⟩ := appR hM.own ((own_grown H4.out.2.1 (grown_drewN w4 m4 none)).base hqs) q4 (H4.out.2.2.kept (grown_drewN w4 m4 none) (by simp)) (by rw [hM.few hk]; have := HLT.out; omega) hM2 36
      rw [hM.few hk] at hr ho5
      refine ⟨_, _, exec_app (s := .tmp 24) (y := .tmp 32) rfl rfl rfl hr, ?_⟩
      have hne : ∀ {q' : Nat} {cs : Array Value} {t : TypeId}, Blk (w4.drewN m4) q' cs t → t ≠ 33 → Blk w5 q' cs t := fun hb ht => hb.kept hg5 (own_ne hM.own.1 hb ht)
      have hgr : w.grownBy w5 none := by
        cases hv : (Value.slice ka k kc).ownBlock with
        | none => rw [hv] at hg5; exact grown_trans hM.gr hg5
        | some r => rw [hv] at hg5; exact grown_new hM.gr hg5 (by rw [HQ.out]; exact (own_low hM.own.1 r hv).1)
      have H5 := hid_mk (And.intro hgr (And.intro (hne hM.box (by decide)) (And.intro (hne hM.out (by decide)) (And.intro (hne hM.res (by decide)) ho5))))
      clear hM hqs hM2 hr ho5 hg5 hne hgr
      refine ⟨at0 w5 (fun W' => w.grownBy W' none ∧ Blk W' q #[.int .i64 id, .int .i64 ee, .int .i64 se, .int .i64 nu, .int .i64 le, .slice (some ⟨gb, off, none⟩) R.length vc] 38 ∧ Blk W' (q + 2) #[.int .i64 id, .int .i64 ee, .int .i64 se, .int .i64 nu, .slice ka k kc, .int .i64 le] 44), ⟨0, rfl⟩, shut_at0 (fun m => ⟨grown_trans H5.out.1 (grown_drewN _ m none), H5.out.2.1.kept (grown_drewN _ m none) (by simp), H5.out.2.2.1.kept (grown_drewN _ m none) (by simp)⟩), fun _ h => h, ?_⟩
      go_simp
      repeat (refine mix_rd1 rfl rfl (fun K hK => ?_); apply Exists.intro; refine ⟨fun W' hW => ?_, ?_⟩; (go_simp; rfl); (go_simp; refine hK _ _ ?_; clear hK K))
      refine mix_nil ?_
      rintro W9 ⟨m5, rfl⟩
      have hb2 := H5.out.2.2.1.kept (grown_drewN w5 m5 none) (by simp)
      obtain ⟨z0, z1, z2, z3, z4, z5, zf⟩ := blk6 (show Blk (w5.drewN m5) (q + 2) #[.int .i64 id, .int .i64 ee, .int .i64 se, .int .i64 nu, .slice ka k kc, .int .i64 le] 44 from hb2)
      refine ⟨(w5.drewN m5).setCell ⟨q + 2, 4, none⟩ (.slice a2 (k + 1) c2), by go_simp, ?_⟩
      have gS := grown_setCell (w5.drewN m5) (q + 2) 4 (.slice a2 (k + 1) c2)
      have gD := grown_drewN w5 m5 none
      have ho9 : OwnRec (w5.drewN m5) q (.slice a2 (k + 1) c2) (Rk ++ [(pb, .slice a' pb.length c')]) := H5.out.2.2.2.2.kept gD
      have hns : ∀ {e : TypeId} {size : Nat} {v : Value} {n : Nat} {xs : List Value}, (w5.drewN m5).ownsRow q e size v n xs → 44 ≠ e → ((w5.drewN m5).setCell ⟨q + 2, 4, none⟩ (.slice a2 (k + 1) c2)).ownsRow q e size v n xs := fun {e size v n xs} hr hn => owns_kept hr gS (fun x cur hx e1 => by
        injection e1 with e1
        subst e1
        have h3 := hb2
        unfold Blk at h3
        rw [h3] at hx
        simp at hx
        exact hn hx.2)
      have H9 := hid_mk (show AnsM w ((w5.drewN m5).setCell ⟨q + 2, 4, none⟩ (.slice a2 (k + 1) c2)) q ⟨id, ee, se, nu, le, rs⟩ (.slice (some ⟨gb, off, none⟩) R.length vc) R (k + 1) (.slice a2 (k + 1) c2) (Rk ++ [(pb, .slice a' pb.length c')]) from
        ⟨grown_new (grown_trans H5.out.1 gD) gS (by rw [HQ.out]; omega), (H5.out.2.1.kept gD (by simp)).kept gS (by simp), (H5.out.2.2.2.1.kept gD (by simp)).kept gS (by simp), hb2.set 4 _, ⟨hns ho9.1 (by decide), fun p hp => hns (ho9.2 p hp) (by decide)⟩, by
          rw [List.map_append, H.out.fst, List.take_add_one, HP.out.1, List.map_append]; rfl⟩)
      clear gS gD ho9 hns hb2 z0 z1 z2 z3 z4 z5 zf
      generalize (w5.drewN m5).setCell ⟨q + 2, 4, none⟩ (.slice a2 (k + 1) c2) = w9 at *
      go_wp2_with fail
      have hk1 := HLT.out
      go_roundg (R.length - (k + 1))
      case measure => omega
      case rel => exact ⟨k + 1, _, _, by omega, rfl, by go_num, H9⟩
    · have hlt' : ¬ (k : Int) < R.length := by omega
      obtain rfl : k = R.length := by omega
      obtain ⟨ka, kc, hvk⟩ := H.out.own.len
      have hfew := H.out.few hk
      rw [hfew] at hvk
      subst hvk
      clear hfew
      obtain ⟨z0, z1, z2, z3, z4, z5, zf⟩ := blk6 (show Blk W (q + 2) #[.int .i64 id, .int .i64 ee, .int .i64 se, .int .i64 nu, .slice ka R.length kc, .int .i64 le] 44 from H.out.out)
      obtain ⟨y0, y1, y2, y3, y4, y5, yf⟩ := blk6 H.out.res
      have GZ := setAll_grown (q + 1) [.int .i64 id, .int .i64 ee, .int .i64 se, .int .i64 nu, .slice ka R.length kc, .int .i64 le] W 0
      have hns : ∀ {e : TypeId} {size : Nat} {v : Value} {n : Nat} {xs : List Value}, W.ownsRow q e size v n xs → 44 ≠ e → (setAll W (q + 1) 0 [.int .i64 id, .int .i64 ee, .int .i64 se, .int .i64 nu, .slice ka R.length kc, .int .i64 le]).ownsRow q e size v n xs := fun {e size v n xs} hr hn => owns_kept hr GZ (fun x cur hx e1 => by
        injection e1 with e1
        subst e1
        have h3 := H.out.res
        unfold Blk at h3
        rw [h3] at hx
        simp at hx
        exact hn hx.2)
      have HZ := hid_mk (show OwnRec (setAll W (q + 1) 0 [.int .i64 id, .int .i64 ee, .int .i64 se, .int .i64 nu, .slice ka R.length kc, .int .i64 le]) q (.slice ka R.length kc) Rk ∧ w.grownBy (setAll W (q + 1) 0 [.int .i64 id, .int .i64 ee, .int .i64 se, .int .i64 nu, .slice ka R.length kc, .int .i64 le]) none ∧ Rk.map (·.1) = R.map (·.1) from
        ⟨⟨hns H.out.own.1 (by decide), fun p hp => hns (H.out.own.2 p hp) (by decide)⟩, grown_new H.out.gr GZ (by rw [HQ.out]; omega), by rw [H.out.fst, List.take_length]⟩)
      clear GZ hns
      go_wp2_with fail
      exact bodyPost_ret (v := .agg #[.int .i64 id, .int .i64 ee, .int .i64 se, .int .i64 nu, .slice ka R.length kc, .int .i64 le]) (by simp [results, Try.results19, go_sem, y0, y1, y2, y3, y4, y5]) rfl ⟨_, rfl, Rk, by rw [HQ.out]; exact HZ.out.1, HZ.out.2.2, HZ.out.2.1⟩
end Go.Proofs.Ytgebhomiehadmaa
