/- client: copyAnswer. -/
import Derived.Test.YtgebhomiehadmaaCcK
namespace Go.Proofs.Ytgebhomiehadmaa
open Go.RowKit Go.Maps
set_option linter.unusedVariables false
set_option linter.unusedSimpArgs false
set_option maxRecDepth 100000

theorem RowP.other {W W' : World} {B : Nat} {v : Value} {R R' : List RV} {k : Nat} (h : RowP W B v R R' k) {b : Nat} {cs : Array Value} {t : TypeId} (hb : Blk W b cs t) (h1 : t ≠ 33) (h2 : t ≠ 5) (hg : W.grownBy W' (some b)) : RowP W' B v R R' k := by
  have ne : ∀ {e : TypeId} {size : Nat} {v : Value} {n : Nat} {xs : List Value}, W.ownsRow B e size v n xs → t ≠ e → W'.ownsRow B e size v n xs := fun {e size v n xs} hr hn => owns_kept hr hg (fun q cur hq e1 => by
    injection e1 with e1
    subst e1
    unfold Blk at hb
    rw [hb] at hq
    simp at hq
    exact hn hq.2)
  exact ⟨ne h.row h1, h.len, h.fst, fun j hj hk => ne (h.own j hj hk) h2, h.old⟩
set_option maxHeartbeats 4000000 in
theorem copyA_any {w : World} {v : Value} {R : List RV} (h : RecR w v R) (hl : R.length ≤ 5864062014805) (hb : ∀ p ∈ R, p.1.length ≤ 140737488355328) (id e0 se nu le : Int) :
    Calls Try.prog 53 #[.agg #[.int .i64 id, .int .i64 e0, .int .i64 se, .int .i64 nu, v, .int .i64 le]] w fun e w' => ∃ v', e = .returned (.agg #[.int .i64 id, .int .i64 e0, .int .i64 se, .int .i64 nu, v', .int .i64 le]) ∧ ∃ R', OwnRec w' w.heap.size v' R' ∧ R'.map (·.1) = R.map (·.1) ∧ w.grownBy w' none := by
  have HG := hid_mk (ga2 w (.cells #[.int .i64 id, .int .i64 e0, .int .i64 se, .int .i64 nu, v, .int .i64 le] 44) (.cells #[.int .i64 0, .int .i64 0, .int .i64 0, .int .i64 0, .slice none 0 0, .int .i64 0] 44))
  have HB := hid_mk (blk_alloc2 w #[.int .i64 id, .int .i64 e0, .int .i64 se, .int .i64 nu, v, .int .i64 le] #[.int .i64 0, .int .i64 0, .int .i64 0, .int .i64 0, .slice none 0 0, .int .i64 0] 44 44)
  have HY := hid_mk (And.intro h hb)
  clear h hb
  go_enter Try.func53, Try.ntmps53
  go_wp2_with fail
  generalize ((w.alloc (.cells #[.int .i64 id, .int .i64 e0, .int .i64 se, .int .i64 nu, v, .int .i64 le] 44)).alloc (.cells #[.int .i64 0, .int .i64 0, .int .i64 0, .int .i64 0, .slice none 0 0, .int .i64 0] 44)) = w1 at *
  generalize hq : w.heap.size = q at *
  have HQ := hid_mk hq
  clear hq
  refine (cloneR_any (HY.out.1.kept HG.out) hl).mono ?_
  rintro e w2 ⟨v', rfl, ho, hg⟩
  obtain ⟨xa, xc, rfl⟩ := row_shape ho
  have hq1 : q + 1 < w1.heap.size := HB.out.2.lt
  have H2 := hid_mk (And.intro (grown_trans HG.out hg) (And.intro (RowP.start (owns_low ho (by omega : q ≤ w1.heap.size))) (And.intro (HB.out.1.kept hg (by simp)) (HB.out.2.kept hg (by simp)))))
  clear ho hg hq1 HG HB
  obtain ⟨a0, a1, a2, a3, a4, a5, af⟩ := blk6 H2.out.2.2.1
  have HBS := hid_mk (fun (p : RV) (hp : p ∈ R) => And.intro (HY.out.1.2 p hp) (HY.out.2 p hp))
  go_wp2_with fail
  have gS := grown_setCell w2 q 4 (.slice xa R.length xc)
  have H3 := hid_mk (And.intro (grown_new H2.out.1 gS (by rw [HQ.out]; exact Nat.le_refl _)) (And.intro (H2.out.2.1.other H2.out.2.2.1 (by decide) (by decide) gS) (And.intro (show Blk (w2.setCell ⟨q, 4, none⟩ (.slice xa R.length xc)) q #[.int .i64 id, .int .i64 e0, .int .i64 se, .int .i64 nu, .slice xa R.length xc, .int .i64 le] 44 from H2.out.2.2.1.set 4 _) (H2.out.2.2.2.kept gS (by simp)))))
  clear gS H2 a0 a1 a2 a3 a4 a5 af
  generalize w2.setCell ⟨q, 4, none⟩ (.slice xa R.length xc) = w3 at *
  go_loopg [12] R.length (fun g iv W => ∃ (k : Nat) (R' : List RV), k ≤ R.length ∧ g = R.length - k ∧ iv = .int .i64 k ∧ Hid (w.grownBy W none ∧ RowP W q (.slice xa R.length xc) R R' k ∧ Blk W q #[.int .i64 id, .int .i64 e0, .int .i64 se, .int .i64 nu, .slice xa R.length xc, .int .i64 le] 44 ∧ Blk W (q + 1) #[.int .i64 0, .int .i64 0, .int .i64 0, .int .i64 0, .slice none 0 0, .int .i64 0] 44))
  case atStart => exact ⟨0, R, Nat.zero_le _, rfl, rfl, H3⟩
  case round =>
    obtain ⟨k, R', hk, hgk, rfl, H⟩ := hrel
    rename World => W
    clear H3
    by_cases hlt : k < R.length
    · have hlt' : (k : Int) < R.length := by omega
      obtain ⟨gb, cap, hv, _, _, _, hcell⟩ := owns_cell H.out.2.1.row (by omega)
      injection hv with hv1 hv2 hv3
      clear hv2
      subst hv1
      obtain ⟨⟨pb, pv⟩, hp⟩ : ∃ p, R[k]? = some p := ⟨_, List.getElem?_eq_getElem hlt⟩
      have hck : W.cell? ⟨gb, k, none⟩ = some pv := hcell k _ (by
        have := H.out.2.1.old k (Nat.le_refl _)
        rw [List.getElem?_map, this, hp]; rfl)
      have HP := hid_mk (And.intro hp (show Byt w pv pb ∧ pb.length ≤ 140737488355328 from HBS.out _ (List.mem_of_getElem? hp)))
      obtain ⟨sa, sc, hsv⟩ := HP.out.2.1.len
      subst hsv
      clear hcell hv3 hlt hp
      go_upto_region 5 with fail
      clear hck
      have HC := hid_mk (fun (W' : World) (hW : Blk W' q #[.int .i64 id, .int .i64 e0, .int .i64 se, .int .i64 nu, .slice (some ⟨gb, 0, none⟩) R.length xc, .int .i64 le] 44) => (blk6 hW).2.2.2.2.1)
      refine wp_region_mix [(0, true), (1, true), (2, true), (3, true), (4, false), (5, true), (6, false)] (at0 W (fun W' => Blk W' q #[.int .i64 id, .int .i64 e0, .int .i64 se, .int .i64 nu, .slice (some ⟨gb, 0, none⟩) R.length xc, .int .i64 le] 44)) (by kernel_rfl) (by kernel_rfl) rfl (by kernel_rfl) (shut_at0 (fun m => H.out.2.2.1.kept (grown_drewN _ m none) (by simp))) ⟨1, rfl⟩ ?_
      repeat (refine mix_rd1 rfl rfl (fun K hK => ?_); apply Exists.intro; refine ⟨fun W' hW => ?_, ?_⟩; (have d4 := HC.out W' hW; go_simp; rfl); (go_simp; refine hK _ _ ?_; clear hK K))
      refine mix_call rfl rfl 58 #[.slice sa pb.length sc] (fun W0 => by go_simp) ?_
      rintro W0 ⟨m1, rfl⟩
      have hby := HP.out.2.1.kept (grown_trans H.out.1 (grown_drewN W m1 none))
      refine (clone_any _ _ _ hby HP.out.2.2).mono ?_
      rintro e w4 ⟨u, rfl, hu, hg⟩
      have H4 := hid_mk (And.intro (grown_trans (grown_drewN W m1 none) hg) hu)
      obtain ⟨ua, uc, rfl⟩ := hu.len
      clear hu hg hby
      refine ⟨_, rfl, at0 w4 (fun W' => Blk W' q #[.int .i64 id, .int .i64 e0, .int .i64 se, .int .i64 nu, .slice (some ⟨gb, 0, none⟩) R.length xc, .int .i64 le] 44), ⟨0, rfl⟩, shut_at0 (fun m => H.out.2.2.1.kept (grown_trans H4.out.1 (grown_drewN _ m none)) (by simp)), fun _ h => h, ?_⟩
      go_simp
      repeat (refine mix_rd1 rfl rfl (fun K hK => ?_); apply Exists.intro; refine ⟨fun W' hW => ?_, ?_⟩; (have d4 := HC.out W' hW; go_simp; rfl); (go_simp; refine hK _ _ ?_; clear hK K))
      refine mix_skip rfl rfl ?_
      rintro W0 ⟨m2, rfl⟩
      have hr4 := (H.out.2.1.kept H4.out.1).kept (grown_drewN w4 m2 none)
      have hq4 : q ≤ (W.drewN m1).heap.size := by have h1 := H.out.1.size; have h2 := HQ.out; show q ≤ W.heap.size; omega
      have hu4 := (own_grown H4.out.2 (grown_drewN w4 m2 none)).base hq4
      have hgb := own_low hr4.row gb rfl
      obtain ⟨hgb1, cc, hcc⟩ := hgb
      have hfz : (w4.drewN m2).frozen? ⟨gb, k, none⟩ = false := Blk.frozen (show Blk (w4.drewN m2) gb cc 33 from hcc) k
      obtain ⟨gb', cap', hv', _, _, _, hcell'⟩ := owns_cell hr4.row (by omega)
      injection hv' with hv1 hv2 hv3
      clear hv2 hv3
      injection hv1 with hv1
      injection hv1 with hv1 hv4 hv5
      clear hv4 hv5
      subst hv1
      have hck : (w4.drewN m2).cell? ⟨gb, k, none⟩ = some (.slice sa pb.length sc) := hcell' k _ (by
        have := H.out.2.1.old k (Nat.le_refl _)
        rw [List.getElem?_map, this, HP.out.1]; rfl)
      refine ⟨(w4.drewN m2).setCell ⟨gb, k, none⟩ (.slice ua pb.length uc), by go_simp, ?_⟩
      have gS := grown_setCell (w4.drewN m2) gb k (.slice ua pb.length uc)
      have gW := grown_trans H4.out.1 (grown_drewN w4 m2 none)
      have H5 := hid_mk (And.intro (grown_new (grown_trans H.out.1 gW) gS (by rw [HQ.out]; exact hgb1)) (And.intro (hr4.next' HP.out.1 hu4) (And.intro ((H.out.2.2.1.kept gW (by simp)).kept gS (own_ne hr4.row (H.out.2.2.1.kept gW (by simp)) (by decide))) ((H.out.2.2.2.kept gW (by simp)).kept gS (own_ne hr4.row (H.out.2.2.2.kept gW (by simp)) (by decide))))))
      clear gS gW hcell' hck hfz hcc hu4 hr4 hgb1
      generalize (w4.drewN m2).setCell ⟨gb, k, none⟩ (.slice ua pb.length uc) = w5 at *
      refine ⟨at0 w5 (fun W' => Blk W' q #[.int .i64 id, .int .i64 e0, .int .i64 se, .int .i64 nu, .slice (some ⟨gb, 0, none⟩) R.length xc, .int .i64 le] 44), ⟨0, rfl⟩, shut_at0 (fun m => H5.out.2.2.1.kept (grown_drewN _ m none) (by simp)), fun _ h => h, ?_⟩
      go_simp
      refine mix_nil ?_
      rintro W9 ⟨m5, rfl⟩
      have H6 := hid_mk (And.intro (grown_trans H5.out.1 (grown_drewN w5 m5 none)) (And.intro (H5.out.2.1.kept (grown_drewN w5 m5 none)) (And.intro (H5.out.2.2.1.kept (grown_drewN w5 m5 none) (by simp)) (H5.out.2.2.2.kept (grown_drewN w5 m5 none) (by simp)))))
      clear H H4 H5 HC
      generalize w5.drewN m5 = w6 at *
      go_wp2_with fail
      go_roundg (R.length - (k + 1))
      case measure => omega
      case rel => exact ⟨k + 1, R'.set k (pb, .slice ua pb.length uc), by omega, rfl, by go_num, H6⟩
    · have hlt' : ¬ (k : Int) < R.length := by omega
      obtain rfl : k = R.length := by omega
      obtain ⟨b0, b1, b2, b3, b4, b5, bf⟩ := blk6 H.out.2.2.2
      obtain ⟨a0, a1, a2, a3, a4, a5, af⟩ := blk6 H.out.2.2.1
      have GZ := setAll_grown (q + 1) [.int .i64 id, .int .i64 e0, .int .i64 se, .int .i64 nu, .slice xa R.length xc, .int .i64 le] W 0
      have hz := H.out.2.1.other H.out.2.2.2 (by decide) (by decide) GZ
      have hgz := grown_new H.out.1 GZ (by rw [HQ.out]; omega)
      have HZ := hid_mk (And.intro hz hgz)
      clear GZ hz hgz
      go_wp2_with fail
      exact bodyPost_ret (v := .agg #[.int .i64 id, .int .i64 e0, .int .i64 se, .int .i64 nu, .slice xa R.length xc, .int .i64 le]) (by simp [results, Try.results53, go_sem, b0, b1, b2, b3, b4, b5]) rfl ⟨_, rfl, R', by rw [HQ.out]; exact HZ.out.1.fin, HZ.out.1.fst, HZ.out.2⟩
end Go.Proofs.Ytgebhomiehadmaa
