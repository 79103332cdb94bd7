/- net: Double. -/
import Derived.Test.YthidpnjndhelbaaNbN
namespace Go.Proofs.Ythidpnjndhelbaa
open Go.RowKit Go.Maps
set_option linter.unusedVariables false
set_option linter.unusedSimpArgs false
set_option maxRecDepth 100000

theorem dbl_no {w : World} {p : Value} (h : NoN w p) (k : Int) : Calls Try.prog 20 #[p, .int .i64 k] w fun e w' => e = .returned (.int .i64 1) ∧ w' = w := by
  have HM := hid_mk h
  clear h
  go_enter Try.func20, Try.ntmps20
  go_wp2_with (go_at_call 34; refine (find_no HM.out k).mono ?_; rintro e w' ⟨rfl, hw⟩; rw [hw]; clear hw)
  go_ret
  exact ⟨rfl, rfl⟩
theorem dbl_bad {w : World} {B b : Nat} {v : Value} {g : NetG} (h : IsN w B b v g) (k : Int) (hk : ¬ (0 ≤ k ∧ k < g.L.length)) : Calls Try.prog 20 #[.pointer (some ⟨b, 0, none⟩), .int .i64 k] w fun e w' => e = .returned (.int .i64 3) ∧ w' = w := by
  have HF := hid_mk (find_any h k)
  rw [findE_bad hk] at HF
  clear h hk
  go_enter Try.func20, Try.ntmps20
  go_wp2_with (go_at_call 34; refine HF.out.mono ?_; rintro e w' ⟨rfl, hw⟩; rw [hw]; clear hw)
  go_ret
  exact ⟨rfl, rfl⟩
theorem dbl_full {w : World} {B b : Nat} {v : Value} {g : NetG} (h : IsN w B b v g) (k : Nat) (hk : k < g.L.length) (hf : g.most ≤ g.L.length) : Calls Try.prog 20 #[.pointer (some ⟨b, 0, none⟩), .int .i64 k] w fun e w' => e = .returned (.int .i64 7) ∧ w.grownBy w' none := by
  have HF := hid_mk (find_any h k)
  rw [findE_ok hk] at HF
  have HU := hid_mk (full_any h)
  rw [decide_eq_true hf] at HU
  clear h hk hf
  go_enter Try.func20, Try.ntmps20
  go_wp2_with (first | (go_at_call 34; refine HF.out.mono ?_; rintro e w' ⟨rfl, hw⟩; rw [hw]; clear hw) | (go_at_call 40; refine HU.out.mono ?_; rintro e w3 ⟨rfl, nq, hw3⟩; rw [hw3]; clear hw3))
  go_ret
  exact ⟨rfl, grown_drewN _ _ none⟩
set_option maxHeartbeats 2000000 in
theorem dbl_ok {w : World} {B b : Nat} {v : Value} {g : NetG} (h : IsN w B b v g) (k : Nat) (hk : k < g.L.length) (hf : ¬ g.most ≤ g.L.length) : Calls Try.prog 20 #[.pointer (some ⟨b, 0, none⟩), .int .i64 k] w fun e w' => e = .returned (.int .i64 0) ∧ NP w w' B b v g (addG g g.L[k]) := by
  have HF := hid_mk (find_any h k)
  rw [findE_ok hk] at HF
  have HU := hid_mk (full_any h)
  rw [decide_eq_false hf] at HU
  have hkn : (k : Int) < g.L.length := by omega
  have HK := hid_mk (And.intro (List.getElem_mem hk) (h.ok.lts _ (List.getElem_mem hk)))
  have HGT := hid_mk (fun (W : World) (hg : w.grownBy W none) => (h.kept hg).row.get k hk)
  have HO := hid_mk (h.bts _ (List.getElem_mem hk))
  have HE := hid_mk (And.intro h hf)
  have hlen := h.len
  clear h hf
  obtain ⟨x, hx⟩ : ∃ x, x = g.L[k] := ⟨_, rfl⟩
  rw [← hx] at HK HO ⊢
  simp only [← hx] at HGT
  clear hx hk
  obtain ⟨⟨fr, tw, bs⟩, sv⟩ := x
  simp only at HO HK HGT
  obtain ⟨sa, sc, rfl⟩ := HO.out.len
  obtain ⟨va, vc, hv⟩ := hlen
  have HV := hid_mk hv
  have HC := hid_mk (fun (W : World) (hb1 : Blk W b (netC g v).toArray 53) => show W.cell? ⟨b, 1, none⟩ = some (.slice va g.L.length vc) by rw [hb1.cell, ← HV.out]; rfl)
  clear hv
  generalize hn : g.L.length = n at *
  have HN := hid_mk hn
  clear hn
  go_enter Try.func20, Try.ntmps20
  go_upto_region 6 with (first | (go_at_call 34; refine HF.out.mono ?_; rintro e w' ⟨rfl, hw⟩; rw [hw]; clear hw) | (go_at_call 40; refine HU.out.mono ?_; rintro e w3 ⟨rfl, nq, hw3⟩; rw [hw3]; clear hw3))
  have HG1 := hid_mk (grown_drewN w nq none)
  generalize w.drewN nq = w1 at *
  clear HF HU
  obtain ⟨gb, gc, hv2, _, _, _⟩ := HGT.out w (grown_refl _ _)
  have hva : va = some ⟨gb, 0, none⟩ := by rw [HV.out] at hv2; injection hv2
  subst hva
  clear hv2 gc
  refine wp_region_mixL [(0, true), (1, true), (2, true), (3, true), (4, true), (5, true), (6, true), (7, true), (8, true), (9, true), (10, true), (11, false), (12, false), (13, false), (14, true), (15, true)] 16 (at0 w1 (fun W => Blk W b (netC g v).toArray 53)) (by kernel_rfl) (by kernel_rfl) rfl (by kernel_rfl) rfl (by kernel_rfl) (shut_at0 (fun m => (HE.out.1.kept (grown_trans HG1.out (grown_drewN w1 m none))).blk)) ⟨1, rfl⟩ ?_
  repeat (refine mix_rd1 rfl rfl (fun K hK => ?_); apply Exists.intro; refine ⟨fun W hW => ?_, ?_⟩; (have ec := HC.out W hW; go_simp; rfl); (go_simp; refine hK _ _ ?_; clear hK K))
  refine mix_do rfl rfl ?_
  rintro W0 ⟨m0, rfl⟩
  obtain ⟨gb', gc', hv2, d0, d1, d2⟩ := HGT.out (w1.drewN m0) (grown_trans HG1.out (grown_drewN w1 m0 none))
  rw [HV.out] at hv2
  injection hv2 with hv3 hv4 hv5
  injection hv3 with hv3
  injection hv3 with hv3
  clear hv4 hv5
  subst hv3
  refine ⟨.agg #[.int .i64 fr, .int .i64 tw, .slice sa bs.length sc], w1.drewN m0, by go_simp, ?_⟩
  clear d0 d1 d2
  have HG2 := hid_mk (grown_trans HG1.out (grown_drewN w1 m0 none))
  generalize w1.drewN m0 = w2 at *
  refine ⟨at0 w2 (fun W => Blk W b (netC g v).toArray 53), ⟨0, rfl⟩, shut_at0 (fun m => (HE.out.1.kept (grown_trans HG2.out (grown_drewN w2 m none))).blk), fun _ h => h, ?_⟩
  go_simp
  refine mix_do rfl rfl ?_
  rintro W0 ⟨m1, rfl⟩
  refine ⟨.slice (some ⟨w2.heap.size, 0, none⟩) 1 1, (w2.drewN m1).alloc (.cells #[.int .i64 fr, .int .i64 tw, .slice sa bs.length sc] 39), by go_simp, ?_⟩
  have G5 := grown_trans (grown_drewN w2 m1 none) (World.grownBy_alloc (w2.drewN m1) (.cells #[.int .i64 fr, .int .i64 tw, .slice sa bs.length sc] 39) none)
  have HB5 := hid_mk (show Blk ((w2.drewN m1).alloc (.cells #[.int .i64 fr, .int .i64 tw, .slice sa bs.length sc] 39)) w2.heap.size #[.int .i64 fr, .int .i64 tw, .slice sa bs.length sc] 39 from blk_alloc (w2.drewN m1) _ _)
  have H5 := hid_mk (grown_trans HG2.out G5)
  clear G5
  generalize (w2.drewN m1).alloc (.cells #[.int .i64 fr, .int .i64 tw, .slice sa bs.length sc] 39) = w5 at *
  generalize w2.heap.size = q5 at *
  refine ⟨at0 w5 (fun W => Blk W b (netC g v).toArray 53), ⟨0, rfl⟩, shut_at0 (fun m => (HE.out.1.kept (grown_trans H5.out (grown_drewN w5 m none))).blk), fun _ h => h, ?_⟩
  go_simp
  refine mix_do rfl rfl ?_
  rintro W0 ⟨m2, rfl⟩
  have hI := HE.out.1.kept (grown_trans H5.out (grown_drewN w5 m2 none))
  have hBs : B ≤ (w5.drewN m2).heap.size := by have h1 := HE.out.1.low; have h2 := hI.blk.lt; omega
  obtain ⟨a', c', w6, hr, ho6, hg6, hbl6⟩ := appL Try.underlying49 info39 (hI.row) [(⟨fr, tw, bs⟩, .slice sa bs.length sc)] ⟨q5, 0, none⟩ 1 (one_src (x := (⟨fr, tw, bs⟩, .slice sa bs.length sc)) (HB5.out.kept (grown_drewN w5 m2 none) (by simp))) (oneL_one rfl) (by have := HE.out.1.ok.hi; have := HE.out.1.ok.few; have := HN.out; simp; omega) hBs 49
  rw [show ([(⟨fr, tw, bs⟩, .slice sa bs.length sc)] : List LV).length = 1 from rfl, HN.out] at hr ho6 hbl6
  rw [HV.out] at hr
  refine ⟨_, _, exec_app (s := .tmp 18) (y := .tmp 26) rfl rfl rfl hr, ?_⟩
  have H6 := hid_mk (And.intro hI (And.intro ho6 (And.intro hg6 hbl6)))
  have HBQ := hid_mk (show Blk w6 b (netC g v).toArray 53 from hI.blk.kept hg6 (own_ne hI.row hI.blk (by decide)))
  clear hI hBs hr ho6 hg6 hbl6
  refine ⟨at0 w6 (fun W => Blk W b (netC g v).toArray 53), ⟨0, rfl⟩, shut_at0 (fun m => HBQ.out.kept (grown_drewN w6 m none) (by simp)), fun _ h => h, ?_⟩
  go_simp
  repeat (refine mix_rd1 rfl rfl (fun K hK => ?_); apply Exists.intro; refine ⟨fun W hW => ?_, ?_⟩; (go_simp; rfl); (go_simp; refine hK _ _ ?_; clear hK K))
  refine mix_nil ?_
  rintro W ⟨m5, rfl⟩
  have b7 : (w6.drewN m5).cell? ⟨b, 1, none⟩ = some v := by rw [(HBQ.out.kept (grown_drewN w6 m5 none) (by simp)).cell]; rfl
  have f7 : (w6.drewN m5).frozen? ⟨b, 1, none⟩ = false := (HBQ.out.kept (grown_drewN w6 m5 none) (by simp)).frozen 1
  refine ⟨(w6.drewN m5).setCell ⟨b, 1, none⟩ (.slice a' (n + 1) c'), by go_simp, ?_⟩
  go_wp2
  go_ret
  have hI := H6.out.1
  have hu : Own (w5.drewN m2) B (.slice sa bs.length sc) bs := own_grown HO.out (grown_trans H5.out (grown_drewN w5 m2 none))
  have hu2 : Own (w6.drewN m5) B (.slice sa bs.length sc) bs := own_grown (Own.kept hu H6.out.2.2.1 (by
    cases hv : v.ownBlock with
    | none => exact .inl rfl
    | some k => exact .inr (fun e => rows_apart hu hI.row (by decide) k e (by rw [hv])))) (grown_drewN w6 m5 none)
  exact ⟨rfl, _, grow_net (x := (⟨fr, tw, bs⟩, .slice sa bs.length sc)) hI (grown_trans H5.out (grown_drewN w5 m2 none)) (fun k e => (owns_lt HE.out.1.row e).2) (owns_kept H6.out.2.1 (grown_drewN w6 m5 none) (fun _ _ _ => by simp)) (grown_trans H6.out.2.2.1 (grown_drewN w6 m5 _)) H6.out.2.2.2 HK.out.2 (by have h1 := HE.out.2; have h2 := HN.out; omega) hu2 (fun k e => .inl ⟨_, HK.out.1, e⟩) HE.out.1.blk.lt⟩
end Go.Proofs.Ythidpnjndhelbaa
