/- net: Open, Next. -/
import Derived.Test.YthidpnjndhelbaaNbP
namespace Go.Proofs.Ythidpnjndhelbaa
open Go.RowKit Go.Maps
set_option linter.unusedVariables false
set_option linter.unusedSimpArgs false
set_option maxRecDepth 100000

theorem open_no {w : World} {p : Value} (h : NoN w p) (x : Value) (hx : ∃ a b c, x = .agg #[a, b, c]) : Calls Try.prog 22 #[p, x] w fun e w' => e = .returned (.bool false) ∧ w.grownBy w' none := by
  obtain ⟨a, b, c, rfl⟩ := hx
  have HG := hid_mk (World.grownBy_alloc w (.cells #[a, b, c] 39) none)
  have HM := hid_mk (h.kept HG.out)
  clear h
  go_enter Try.func22, Try.ntmps22
  go_upto_region 1 with fail
  generalize (w.alloc (.cells #[a, b, c] 39)) = w1 at *
  refine wp_region_mix [(0, true), (1, false), (2, true), (3, true), (4, true), (5, true), (6, true), (7, true), (8, true), (9, true), (10, true), (11, true), (12, true), (13, true), (14, true)] (at0 w1 (fun W => True)) (by kernel_rfl) (by kernel_rfl) rfl (by kernel_rfl) (shut_at0 (fun m => trivial)) ⟨1, rfl⟩ ?_
  repeat (refine mix_rd1 rfl rfl (fun K hK => ?_); apply Exists.intro; refine ⟨fun W hW => ?_, ?_⟩; (go_simp; rfl); (go_simp; refine hK _ _ ?_; clear hK K))
  refine mix_call rfl rfl 38 #[p] (fun W0 => by go_simp) ?_
  rintro W0 ⟨m0, rfl⟩
  refine (made_no (HM.out.kept (grown_drewN w1 m0 none))).mono ?_
  rintro e w2 ⟨rfl, hw⟩
  subst hw
  have HG2 := hid_mk (grown_trans HG.out (grown_drewN w1 m0 none))
  generalize w1.drewN m0 = w2 at *
  refine ⟨_, rfl, at0 w2 (fun W => True), ⟨0, rfl⟩, shut_at0 (fun m => trivial), fun _ h => h, ?_⟩
  go_simp
  repeat (first | (refine mix_no1 rfl rfl (fun K hK => ?_); go_simp; refine hK _ _ ?_; clear hK K) | (refine mix_rd1 rfl rfl (fun K hK => ?_); apply Exists.intro; refine ⟨fun W hW => ?_, ?_⟩; (go_simp; rfl); (go_simp; refine hK _ _ ?_; clear hK K)))
  refine mix_nil ?_
  rintro W ⟨m5, rfl⟩
  go_wp2
  go_ret
  exact ⟨rfl, grown_trans HG2.out (grown_drewN _ _ none)⟩
def openB (g : NetG) (fr tw : Int) (n : Nat) : Bool := okL fr tw n && pasB g.W fr tw
set_option maxHeartbeats 1000000 in
theorem open_any {w : World} {B b : Nat} {v : Value} {g : NetG} (h : IsN w B b v g) (fr tw : Int) (a : Option Addr) (n c : Nat) : Calls Try.prog 22 #[.pointer (some ⟨b, 0, none⟩), .agg #[.int .i64 fr, .int .i64 tw, .slice a n c]] w fun e w' => e = .returned (.bool (openB g fr tw n)) ∧ w.grownBy w' none := by
  have HG := hid_mk (World.grownBy_alloc w (.cells #[.int .i64 fr, .int .i64 tw, .slice a n c] 39) none)
  have HQ := hid_mk (blk_alloc w #[.int .i64 fr, .int .i64 tw, .slice a n c] 39)
  have HN := hid_mk (h.kept HG.out)
  unfold openB
  clear h
  go_enter Try.func22, Try.ntmps22
  go_upto_region 1 with fail
  generalize (w.alloc (.cells #[.int .i64 fr, .int .i64 tw, .slice a n c] 39)) = w1 at *
  generalize w.heap.size = q at *
  obtain ⟨AF, hAF⟩ : ∃ A, A = (bools (mk16 g.W)).toArray := ⟨_, rfl⟩
  have hsF : AF.size = 16 := by rw [hAF]; exact mk16_size _
  have HR := hid_mk (show w1.rangeAt b 2 AF.toList by rw [hAF]; exact HN.out.range)
  have HAF := hid_mk hAF
  clear hAF
  refine wp_region_mix [(0, true), (1, false), (2, true), (3, true), (4, false), (5, true), (6, true), (7, true), (8, true), (9, true), (10, true), (11, true), (12, false), (13, true), (14, true)] (at0 w1 (fun W => w1.grownBy W none)) (by kernel_rfl) (by kernel_rfl) rfl (by kernel_rfl) (shut_at0 (fun m => grown_drewN _ m none)) ⟨1, rfl⟩ ?_
  repeat (refine mix_rd1 rfl rfl (fun K hK => ?_); apply Exists.intro; refine ⟨fun W hW => ?_, ?_⟩; (go_simp; rfl); (go_simp; refine hK _ _ ?_; clear hK K))
  refine mix_call rfl rfl 38 #[.pointer (some ⟨b, 0, none⟩)] (fun W0 => by go_simp) ?_
  rintro W0 ⟨m0, rfl⟩
  refine (made_any (HN.out.drew m0)).mono ?_
  rintro e w2 ⟨rfl, hw⟩
  subst hw
  have HG2 := hid_mk (grown_drewN w1 m0 none)
  generalize w1.drewN m0 = w2 at *
  refine ⟨_, rfl, at0 w2 (fun W => w1.grownBy W none), ⟨0, rfl⟩, shut_at0 (fun m => grown_trans HG2.out (grown_drewN _ m none)), fun _ h => h, ?_⟩
  go_simp
  repeat (refine mix_rd1 rfl rfl (fun K hK => ?_); apply Exists.intro; refine ⟨fun W hW => ?_, ?_⟩; (obtain ⟨e0, e1, e2, ef⟩ := blk3 (HQ.out.kept hW (by simp)); go_simp; rfl); (go_simp; refine hK _ _ ?_; clear hK K))
  refine mix_call rfl rfl 39 #[.agg #[.int .i64 fr, .int .i64 tw, .slice a n c]] (fun W0 => by go_simp) ?_
  rintro W0 ⟨m1, rfl⟩
  refine (mayBe_any fr tw a n c _).mono ?_
  rintro e w3 ⟨rfl, hg⟩
  have HG3 := hid_mk (grown_trans HG2.out (grown_trans (grown_drewN w2 m1 none) hg))
  clear hg
  refine ⟨_, rfl, at0 w3 (fun W => w1.grownBy W none), ⟨0, rfl⟩, shut_at0 (fun m => grown_trans HG3.out (grown_drewN _ m none)), fun _ h => h, ?_⟩
  cases hok : okL fr tw n
  · have HOK := hid_mk hok
    clear hok
    go_simp
    repeat (first | (refine mix_no1 rfl rfl (fun K hK => ?_); go_simp; refine hK _ _ ?_; clear hK K) | (refine mix_rd1 rfl rfl (fun K hK => ?_); apply Exists.intro; refine ⟨fun W hW => ?_, ?_⟩; (go_simp; rfl); (go_simp; refine hK _ _ ?_; clear hK K)))
    refine mix_nil ?_
    rintro W ⟨m5, rfl⟩
    go_wp2
    go_ret
    exact ⟨ret_bool (by rw [HOK.out]; rfl), grown_trans HG.out (grown_trans HG3.out (grown_drewN _ _ none))⟩
  · have HOK := hid_mk (okL_iff.1 hok)
    clear hok
    go_simp
    repeat (first | (refine mix_rd1 rfl rfl (fun K hK => ?_); apply Exists.intro; refine ⟨fun W hW => ?_, ?_⟩; (first | (exact exec_load51 rfl rfl hsF (range_kept HR.out hW (by simp))) | (obtain ⟨e0, e1, e2, ef⟩ := blk3 (HQ.out.kept hW (by simp)); go_simp; rfl)); (go_simp; refine hK _ _ ?_; clear hK K)))
    refine mix_call rfl rfl 36 #[.agg AF, .agg #[.int .i64 fr, .int .i64 tw, .slice a n c]] (fun W0 => by go_simp) ?_
    rintro W0 ⟨m2, rfl⟩
    refine (passes_any HAF.out fr tw (.slice a n c) _ HOK.out.1 HOK.out.2.1).mono ?_
    rintro e w4 ⟨rfl, hg⟩
    have HG4 := hid_mk (grown_trans HG3.out (grown_trans (grown_drewN w3 m2 none) hg))
    clear hg
    obtain ⟨ps, hps⟩ : ∃ x, x = pasB g.W fr tw := ⟨_, rfl⟩
    rw [← hps]
    have HPS := hid_mk hps
    clear hps
    refine ⟨_, rfl, at0 w4 (fun W => w1.grownBy W none), ⟨0, rfl⟩, shut_at0 (fun m => grown_trans HG4.out (grown_drewN _ m none)), fun _ h => h, ?_⟩
    go_simp
    repeat (refine mix_rd1 rfl rfl (fun K hK => ?_); apply Exists.intro; refine ⟨fun W hW => ?_, ?_⟩; (go_simp; rfl); (go_simp; refine hK _ _ ?_; clear hK K))
    refine mix_nil ?_
    rintro W ⟨m5, rfl⟩
    go_wp2
    go_ret
    exact ⟨ret_bool (by rw [okL_iff.2 HOK.out, ← HPS.out]; rfl), grown_trans HG.out (grown_trans HG4.out (grown_drewN _ _ none))⟩
/-- The first that passes, from one on. -/
def nextN (g : NetG) : Nat → Nat → Int
  | 0, _ => -1
  | f + 1, k => match g.L[k]? with
    | none => -1
    | some p => if pasB g.W p.1.fr p.1.tw then k else nextN g f (k + 1)
def nextI (g : NetG) (from_ : Int) : Int := nextN g (g.L.length - (max from_ 0).toNat) (max from_ 0).toNat
theorem nextN_yes {g : NetG} {k : Nat} (hk : k < g.L.length) (hp : pasB g.W g.L[k].1.fr g.L[k].1.tw = true) : nextN g (g.L.length - k) k = k := by
  obtain ⟨f, hf⟩ : ∃ f, g.L.length - k = f + 1 := ⟨g.L.length - k - 1, by omega⟩
  rw [hf]
  unfold nextN
  rw [List.getElem?_eq_getElem hk]
  simp only
  rw [if_pos hp]
theorem nextN_no {g : NetG} {k : Nat} (hk : k < g.L.length) (hp : pasB g.W g.L[k].1.fr g.L[k].1.tw = false) : nextN g (g.L.length - k) k = nextN g (g.L.length - (k + 1)) (k + 1) := by
  obtain ⟨f, hf⟩ : ∃ f, g.L.length - k = f + 1 := ⟨g.L.length - k - 1, by omega⟩
  rw [hf, show g.L.length - (k + 1) = f by omega]
  conv => lhs; unfold nextN
  rw [List.getElem?_eq_getElem hk]
  simp only
  rw [if_neg (by rw [hp]; simp)]
theorem nextN_end {g : NetG} {k : Nat} (hk : g.L.length ≤ k) : nextN g (g.L.length - k) k = -1 := by
  rw [show g.L.length - k = 0 by omega]
  rfl
theorem next_no {w : World} {p : Value} (h : NoN w p) (k : Int) : Calls Try.prog 23 #[p, .int .i64 k] w fun e w' => e = .returned (.int .i64 0) ∧ w' = w := by
  have HM := hid_mk h
  clear h
  go_enter Try.func23, Try.ntmps23
  go_wp2_with (go_at_call 38; refine (made_no HM.out).mono ?_; rintro e w' ⟨rfl, hw⟩; rw [hw]; clear hw)
  go_ret
  exact ⟨rfl, rfl⟩
set_option maxHeartbeats 2000000 in
theorem next_any {w : World} {B b : Nat} {v : Value} {g : NetG} (h : IsN w B b v g) (z : Int) : Calls Try.prog 23 #[.pointer (some ⟨b, 0, none⟩), .int .i64 z] w fun e w' => e = .returned (.int .i64 (nextI g z)) ∧ w.grownBy w' none := by
  have HM := hid_mk (made_any h)
  have HN := hid_mk h
  obtain ⟨k0, hk0, hz⟩ : ∃ k0 : Nat, nextI g z = nextN g (g.L.length - k0) k0 ∧ ((z < 0 ∧ k0 = 0) ∨ z = k0) := by
    by_cases hz : z < 0
    · exact ⟨0, by unfold nextI; rw [show (max z 0).toNat = 0 by omega], .inl ⟨hz, rfl⟩⟩
    · exact ⟨z.toNat, by unfold nextI; rw [show (max z 0).toNat = z.toNat by omega], .inr (by omega)⟩
  rw [hk0]
  clear hk0
  obtain ⟨va, vc, hv⟩ := h.len
  have HV := hid_mk hv
  have HC := hid_mk (fun (W : World) (hg : w.grownBy W none) => show W.cell? ⟨b, 1, none⟩ = some (.slice va g.L.length vc) by rw [(h.kept hg).c1, ← hv])
  have HFW := hid_mk (And.intro h.ok.few h.ok.hi)
  clear h hv
  obtain ⟨AF, hAF⟩ : ∃ A, A = (bools (mk16 g.W)).toArray := ⟨_, rfl⟩
  have hsF : AF.size = 16 := by rw [hAF]; exact mk16_size _
  have HR := hid_mk (show w.rangeAt b 2 AF.toList by rw [hAF]; exact HN.out.range)
  have HAF := hid_mk hAF
  clear hAF
  have HK := hid_mk (show ∀ W, w.grownBy W none → ∀ k (hk : k < g.L.length), ∃ gb c, va = some ⟨gb, 0, none⟩ ∧ W.cell? ⟨gb, k * 3, none⟩ = some (.int .i64 g.L[k].1.fr) ∧ W.cell? ⟨gb, k * 3 + 1, none⟩ = some (.int .i64 g.L[k].1.tw) ∧ W.cell? ⟨gb, k * 3 + 2, none⟩ = some g.L[k].2 ∧ c = 0 from fun W hg k hk => by
    obtain ⟨gb, c, hv, d0, d1, d2⟩ := (HN.out.kept hg).row.get k hk
    rw [HV.out] at hv
    injection hv with e1 _ _
    exact ⟨gb, 0, e1, d0, d1, d2, rfl⟩)
  have HOK := hid_mk (fun p hp => okL_iff.1 (HN.out.ok.lts p hp))
  have hl10 : (g.L.length : Int) ≤ 10000 := by have := HFW.out; omega
  have HK0 : Hid (z < 0 → k0 = 0) := hid_mk (fun h => by rcases hz with h | h <;> omega)
  by_cases hz0 : z < 0
  · have HK0 := hid_mk (HK0.out hz0)
    clear hz
    go_enter Try.func23, Try.ntmps23
    go_wp2_with (go_at_call 38; refine HM.out.mono ?_; rintro e w' ⟨rfl, hw⟩; rw [hw]; clear hw)
    go_loopg [5] (g.L.length - k0) (fun gg xv W => ∃ k : Nat, gg = g.L.length - k ∧ xv = .int .i64 k ∧ Hid (w.grownBy W none ∧ nextN g (g.L.length - k) k = nextN g (g.L.length - k0) k0))
    case atStart => first | exact ⟨k0, rfl, rfl, hid_mk ⟨grown_refl _ _, rfl⟩⟩ | exact ⟨k0, rfl, by rw [HK0.out]; rfl, hid_mk ⟨grown_refl _ _, rfl⟩⟩
    case round =>
      obtain ⟨k, hgk, rfl, HI⟩ := hrel
      rename World => W
      have c1 := HC.out W HI.out.1
      by_cases hlt : k < g.L.length
      · have hlt' : (k : Int) < g.L.length := by omega
        obtain ⟨gb, _, hva, _, _, _, _⟩ := HK.out W HI.out.1 k hlt
        subst hva
        go_upto_region 6 with fail
        refine wp_region_mix [(0, true), (1, true), (2, true), (3, true), (4, true), (5, true), (6, true), (7, true), (8, true), (9, true), (10, true), (11, false)] (at0 W (fun W' => W.grownBy W' none)) (by kernel_rfl) (by kernel_rfl) rfl (by kernel_rfl) (shut_at0 (fun m => grown_drewN _ m none)) ⟨1, rfl⟩ ?_
        clear c1
        have HP := hid_mk (fun W' (hg : W.grownBy W' none) => HK.out W' (grown_trans HI.out.1 hg) k hlt)
        have HO := hid_mk (HOK.out _ (List.getElem_mem hlt))
        have HY := hid_mk (And.intro (nextN_yes (g := g) hlt) (nextN_no (g := g) hlt))
        have HSV := hid_mk ((HN.out.bts _ (List.getElem_mem hlt)).len)
        obtain ⟨x, hx⟩ : ∃ x, x = g.L[k] := ⟨_, rfl⟩
        rw [← hx] at HO HY HSV
        simp only [← hx] at HP
        clear hx
        obtain ⟨⟨fr, tw, bs⟩, sv⟩ := x
        simp only at HO HP HSV HY
        obtain ⟨sa, sc, rfl⟩ := HSV.out
        have HCC := hid_mk (fun W' (hg : W.grownBy W' none) => HC.out W' (grown_trans HI.out.1 hg))
        have HD := hid_mk (show ∀ W', W.grownBy W' none → W'.cell? ⟨gb, k * 3, none⟩ = some (.int .i64 fr) ∧ W'.cell? ⟨gb, k * 3 + 1, none⟩ = some (.int .i64 tw) ∧ W'.cell? ⟨gb, k * 3 + 2, none⟩ = some (.slice sa bs.length sc) from fun W' hg => by
          obtain ⟨gb', _, e, d0, d1, d2, _⟩ := HP.out W' hg
          injection e with e
          injection e with e
          subst e
          exact ⟨d0, d1, d2⟩)
        clear HP
        repeat (refine mix_rd1 rfl rfl (fun K hK => ?_); apply Exists.intro; refine ⟨fun W' hW => ?_, ?_⟩; (first | (exact exec_load51 rfl rfl hsF (range_kept HR.out (grown_trans HI.out.1 hW) (by simp))) | (have ec := HCC.out W' hW; obtain ⟨d0, d1, d2⟩ := HD.out W' hW; go_simp; rfl)); (go_simp; refine hK _ _ ?_; clear hK K))
        refine mix_call rfl rfl 36 #[.agg AF, .agg #[.int .i64 fr, .int .i64 tw, .slice sa bs.length sc]] (fun W0 => by go_simp) ?_
        rintro W0 ⟨m2, rfl⟩
        refine (passes_any HAF.out fr tw (.slice sa bs.length sc) _ HO.out.1 HO.out.2.1).mono ?_
        rintro e w4 ⟨rfl, hg⟩
        have HG4 := hid_mk (grown_trans (grown_drewN W m2 none) hg)
        clear hg
        obtain ⟨ps, hps⟩ : ∃ x, x = pasB g.W fr tw := ⟨_, rfl⟩
        rw [← hps] at HY ⊢
        clear hps
        refine ⟨_, rfl, at0 w4 (fun W' => W.grownBy W' none), ⟨0, rfl⟩, shut_at0 (fun m => grown_trans HG4.out (grown_drewN _ m none)), fun _ h => h, ?_⟩
        go_simp
        refine mix_nil ?_
        rintro W5 ⟨m5, rfl⟩
        have HG5 := hid_mk (grown_trans HI.out.1 (grown_trans HG4.out (grown_drewN w4 m5 none)))
        generalize w4.drewN m5 = w5 at *
        cases ps
        · have HY2 := hid_mk (HY.out.2 rfl)
          clear HY
          go_wp2
          go_roundg (g.L.length - (k + 1))
          case measure => omega
          case rel => exact ⟨k + 1, rfl, by go_num, hid_mk ⟨HG5.out, by rw [← HY2.out]; exact HI.out.2⟩⟩
        · have HY2 := hid_mk (HY.out.1 rfl)
          clear HY
          go_wp2
          go_ret
          exact ⟨ret_int (by rw [← HI.out.2, HY2.out]), HG5.out⟩
      · have hlt' : ¬ (k : Int) < g.L.length := by omega
        go_wp2
        go_ret
        exact ⟨ret_int (by rw [← HI.out.2, nextN_end (by omega)]), HI.out.1⟩
  · obtain rfl : z = k0 := by omega
    clear hz hz0 HK0
    have hz0 : (0 : Int) ≤ k0 := by omega
    go_enter Try.func23, Try.ntmps23
    go_wp2_with (go_at_call 38; refine HM.out.mono ?_; rintro e w' ⟨rfl, hw⟩; rw [hw]; clear hw)
    go_loopg [5] (g.L.length - k0) (fun gg xv W => ∃ k : Nat, gg = g.L.length - k ∧ xv = .int .i64 k ∧ Hid (w.grownBy W none ∧ nextN g (g.L.length - k) k = nextN g (g.L.length - k0) k0))
    case atStart => first | exact ⟨k0, rfl, rfl, hid_mk ⟨grown_refl _ _, rfl⟩⟩ | exact ⟨k0, rfl, by rw [HK0.out]; rfl, hid_mk ⟨grown_refl _ _, rfl⟩⟩
    case round =>
      obtain ⟨k, hgk, rfl, HI⟩ := hrel
      rename World => W
      have c1 := HC.out W HI.out.1
      by_cases hlt : k < g.L.length
      · have hlt' : (k : Int) < g.L.length := by omega
        obtain ⟨gb, _, hva, _, _, _, _⟩ := HK.out W HI.out.1 k hlt
        subst hva
        go_upto_region 6 with fail
        refine wp_region_mix [(0, true), (1, true), (2, true), (3, true), (4, true), (5, true), (6, true), (7, true), (8, true), (9, true), (10, true), (11, false)] (at0 W (fun W' => W.grownBy W' none)) (by kernel_rfl) (by kernel_rfl) rfl (by kernel_rfl) (shut_at0 (fun m => grown_drewN _ m none)) ⟨1, rfl⟩ ?_
        clear c1
        have HP := hid_mk (fun W' (hg : W.grownBy W' none) => HK.out W' (grown_trans HI.out.1 hg) k hlt)
        have HO := hid_mk (HOK.out _ (List.getElem_mem hlt))
        have HY := hid_mk (And.intro (nextN_yes (g := g) hlt) (nextN_no (g := g) hlt))
        have HSV := hid_mk ((HN.out.bts _ (List.getElem_mem hlt)).len)
        obtain ⟨x, hx⟩ : ∃ x, x = g.L[k] := ⟨_, rfl⟩
        rw [← hx] at HO HY HSV
        simp only [← hx] at HP
        clear hx
        obtain ⟨⟨fr, tw, bs⟩, sv⟩ := x
        simp only at HO HP HSV HY
        obtain ⟨sa, sc, rfl⟩ := HSV.out
        have HCC := hid_mk (fun W' (hg : W.grownBy W' none) => HC.out W' (grown_trans HI.out.1 hg))
        have HD := hid_mk (show ∀ W', W.grownBy W' none → W'.cell? ⟨gb, k * 3, none⟩ = some (.int .i64 fr) ∧ W'.cell? ⟨gb, k * 3 + 1, none⟩ = some (.int .i64 tw) ∧ W'.cell? ⟨gb, k * 3 + 2, none⟩ = some (.slice sa bs.length sc) from fun W' hg => by
          obtain ⟨gb', _, e, d0, d1, d2, _⟩ := HP.out W' hg
          injection e with e
          injection e with e
          subst e
          exact ⟨d0, d1, d2⟩)
        clear HP
        repeat (refine mix_rd1 rfl rfl (fun K hK => ?_); apply Exists.intro; refine ⟨fun W' hW => ?_, ?_⟩; (first | (exact exec_load51 rfl rfl hsF (range_kept HR.out (grown_trans HI.out.1 hW) (by simp))) | (have ec := HCC.out W' hW; obtain ⟨d0, d1, d2⟩ := HD.out W' hW; go_simp; rfl)); (go_simp; refine hK _ _ ?_; clear hK K))
        refine mix_call rfl rfl 36 #[.agg AF, .agg #[.int .i64 fr, .int .i64 tw, .slice sa bs.length sc]] (fun W0 => by go_simp) ?_
        rintro W0 ⟨m2, rfl⟩
        refine (passes_any HAF.out fr tw (.slice sa bs.length sc) _ HO.out.1 HO.out.2.1).mono ?_
        rintro e w4 ⟨rfl, hg⟩
        have HG4 := hid_mk (grown_trans (grown_drewN W m2 none) hg)
        clear hg
        obtain ⟨ps, hps⟩ : ∃ x, x = pasB g.W fr tw := ⟨_, rfl⟩
        rw [← hps] at HY ⊢
        clear hps
        refine ⟨_, rfl, at0 w4 (fun W' => W.grownBy W' none), ⟨0, rfl⟩, shut_at0 (fun m => grown_trans HG4.out (grown_drewN _ m none)), fun _ h => h, ?_⟩
        go_simp
        refine mix_nil ?_
        rintro W5 ⟨m5, rfl⟩
        have HG5 := hid_mk (grown_trans HI.out.1 (grown_trans HG4.out (grown_drewN w4 m5 none)))
        generalize w4.drewN m5 = w5 at *
        cases ps
        · have HY2 := hid_mk (HY.out.2 rfl)
          clear HY
          go_wp2
          go_roundg (g.L.length - (k + 1))
          case measure => omega
          case rel => exact ⟨k + 1, rfl, by go_num, hid_mk ⟨HG5.out, by rw [← HY2.out]; exact HI.out.2⟩⟩
        · have HY2 := hid_mk (HY.out.1 rfl)
          clear HY
          go_wp2
          go_ret
          exact ⟨ret_int (by rw [← HI.out.2, HY2.out]), HG5.out⟩
      · have hlt' : ¬ (k : Int) < g.L.length := by omega
        go_wp2
        go_ret
        exact ⟨ret_int (by rw [← HI.out.2, nextN_end (by omega)]), HI.out.1⟩
end Go.Proofs.Ythidpnjndhelbaa
