/- net: Take. -/
import Derived.Test.YthidpnjndhelbaaNbK
namespace Go.Proofs.Ythidpnjndhelbaa
open Go.RowKit Go.Maps
set_option linter.unusedVariables false
set_option linter.unusedSimpArgs false
set_option maxRecDepth 100000

theorem exec_load51 {ea : Operand → Value} {o : Oper} {x : Operand} {b off : Nat} {A : Array Value} {w : World} (ho : o.op = .load 51 x) (hx : ea x = .pointer (some ⟨b, off, none⟩)) (hA : A.size = 16) (hr : w.rangeAt b off A.toList) : (execOp ea o).run Try.prog w = .ok (.value (.agg A)) w := by
  have := run_loadVar_mid (P := Try.prog) w b off 51 A.toList _ hr Try.underlying51 rfl (by rw [info51, Array.length_toList, hA])
  unfold execOp
  simp only [ho, hx, Instr.loadAt, Instr.sureAddr, Sem.run_bind, Sem.run_pure, Result.andThen_ok, this]
theorem isN_keeps {w w' : World} {F : Nat → Prop} {B b : Nat} {v : Value} {g : NetG} (h : IsN w B b v g) (hk : Keeps F w w') (h1 : ¬ F b) (h2 : ∀ k, v.ownBlock = some k → ¬ F k) (h3 : ∀ k, ByK g.L k → ¬ F k) : IsN w' B b v g :=
  ⟨h.blk.keeps hk h1, owns_keeps h.row hk h2, h.bts.keeps hk (fun p hp k e => h3 k ⟨p, hp, e⟩), h.low, h.ok⟩
theorem NPv.pre {w w3 w' : World} {B b : Nat} {v v' : Value} {g g' : NetG} (hg : w.grownBy w3 none) (h : NPv w3 w' B b v v' g g') : NPv w w' B b v v' g g' :=
  ⟨h.net, keeps_then (Keeps.of_none hg) h.keeps (fun _ _ e => e), fun k e => (h.row k e).imp id (fun x => Nat.le_trans hg.size x), fun k e => (h.byk k e).imp id (fun x => Nat.le_trans hg.size x)⟩
theorem NPv.keeps' {w w4 w5 : World} {F : Nat → Prop} {B b : Nat} {v v' : Value} {g g' : NetG} (h : NPv w w4 B b v v' g g') (hk : Keeps F w4 w5) (hF : ∀ k, F k → w.heap.size ≤ k) (h1 : ¬ F b) (h2 : ∀ k, v'.ownBlock = some k → ¬ F k) (h3 : ∀ k, ByK g'.L k → ¬ F k) : NPv w w5 B b v v' g g' :=
  ⟨isN_keeps h.net hk h1 h2 h3, keeps_then h.keeps hk (fun i hi e => absurd (hF i e) (by omega)), h.row, h.byk⟩
theorem NPv.post {w w4 w5 : World} {B b : Nat} {v v' : Value} {g g' : NetG} (h : NPv w w4 B b v v' g g') (hg : w4.grownBy w5 none) : NPv w w5 B b v v' g g' :=
  h.keeps' (F := fun _ => False) (Keeps.of_none hg) (fun _ e => e.elim) (fun e => e) (fun _ _ e => e) (fun _ _ e => e)
/-- A box of letters is none of a net's. -/
theorem by_box {w : World} {B : Nat} {L : List LV} (h : Bts w B L) {q : Nat} {cs : Array Value} {t : TypeId} (hq : Blk w q cs t) (ht : t ≠ 5) {k : Nat} (hk : ByK L k) : k ≠ q := fun e => by
  obtain ⟨p, hp, hb⟩ := hk
  subst e
  exact own_ne (h p hp) hq ht hb.symm
theorem take_no {w : World} {p : Value} (h : NoN w p) (k : Int) : Calls Try.prog 14 #[p, .int .i64 k] w fun e w' => e = .returned (.tuple #[.agg #[.int .i64 0, .int .i64 0, .slice none 0 0], .int .i64 1]) ∧ w.grownBy w' none := by
  have HG := hid_mk (World.grownBy_alloc w (.cells #[.int .i64 0, .int .i64 0, .slice none 0 0] 39) none)
  have HM := hid_mk (h.kept HG.out)
  clear h
  go_enter Try.func14, Try.ntmps14
  go_wp2_with (go_at_call 34; refine (find_no HM.out k).mono ?_; rintro e w' ⟨rfl, hw⟩; rw [hw]; clear hw)
  exact bodyPost_ret (v := .tuple #[.agg #[.int .i64 0, .int .i64 0, .slice none 0 0], .int .i64 1]) (by simp [results, Try.results14, go_sem]) rfl ⟨rfl, HG.out⟩
theorem take_bad {w : World} {B b : Nat} {v : Value} {g : NetG} (h : IsN w B b v g) (k : Int) (hk : ¬ (0 ≤ k ∧ k < g.L.length)) : Calls Try.prog 14 #[.pointer (some ⟨b, 0, none⟩), .int .i64 k] w fun e w' => e = .returned (.tuple #[.agg #[.int .i64 0, .int .i64 0, .slice none 0 0], .int .i64 3]) ∧ w.grownBy w' none := by
  have HG := hid_mk (World.grownBy_alloc w (.cells #[.int .i64 0, .int .i64 0, .slice none 0 0] 39) none)
  have HF := hid_mk (find_any (h.kept HG.out) k)
  rw [findE_bad hk] at HF
  clear h hk
  go_enter Try.func14, Try.ntmps14
  go_wp2_with (go_at_call 34; refine HF.out.mono ?_; rintro e w' ⟨rfl, hw⟩; rw [hw]; clear hw)
  exact bodyPost_ret (v := .tuple #[.agg #[.int .i64 0, .int .i64 0, .slice none 0 0], .int .i64 3]) (by simp [results, Try.results14, go_sem]) rfl ⟨rfl, HG.out⟩
set_option maxHeartbeats 1000000 in
theorem take_any {w : World} {B b : Nat} {v : Value} {g : NetG} (h : IsN w B b v g) (k : Nat) (hk : k < g.L.length) : Calls Try.prog 14 #[.pointer (some ⟨b, 0, none⟩), .int .i64 k] w fun e w' =>
    (pasB g.W g.L[k].1.fr g.L[k].1.tw = false ∧ e = .returned (.tuple #[.agg #[.int .i64 0, .int .i64 0, .slice none 0 0], .int .i64 31]) ∧ w.grownBy w' none) ∨
    (pasB g.W g.L[k].1.fr g.L[k].1.tw = true ∧ ∃ v', e = .returned (.tuple #[.agg #[.int .i64 g.L[k].1.fr, .int .i64 g.L[k].1.tw, v'], .int .i64 0]) ∧ Own w' w.heap.size v' g.L[k].1.b ∧ NP w w' B b v g (remG g k)) := by
  have HG := hid_mk (World.grownBy_alloc w (.cells #[.int .i64 0, .int .i64 0, .slice none 0 0] 39) none)
  have HB := hid_mk (blk_alloc w #[.int .i64 0, .int .i64 0, .slice none 0 0] 39)
  have h1 := h.kept HG.out
  have HF := hid_mk (find_any h1 k)
  rw [findE_ok hk] at HF
  obtain ⟨gb, c, hv, d0, d1, d2⟩ := h1.row.get k hk
  have c1 := h1.c1
  have hO := h1.bts _ (List.getElem_mem hk)
  have hln := okL_iff.1 (h1.ok.lts _ (List.getElem_mem hk))
  have HO := hid_mk (And.intro hO hln)
  obtain ⟨va, vc, hsv⟩ := hO.len
  have hcc := c1
  rw [hv] at c1
  have hkn : (k : Int) < g.L.length := by omega
  have HN := hid_mk (And.intro h1 (And.intro hk h))
  clear h h1 hO hln
  generalize g.L[k] = x at *
  obtain ⟨⟨fr, tw, bs⟩, sv⟩ := x
  clear hk
  simp only at *
  subst hsv
  have HLN := hid_mk hv
  clear hv hcc
  obtain ⟨n, hn⟩ : ∃ n, n = g.L.length := ⟨_, rfl⟩
  rw [← hn] at c1 hkn
  clear hn
  go_enter Try.func14, Try.ntmps14
  go_upto_region 5 with (go_at_call 34; refine HF.out.mono ?_; rintro e w' ⟨rfl, hw⟩; rw [hw]; clear hw)
  have HW := hid_mk (And.intro (blk_alloc2 w #[.int .i64 0, .int .i64 0, .slice none 0 0] #[.int .i64 fr, .int .i64 tw, .slice va bs.length vc] 39 39) (World.grownBy_alloc (w.alloc (.cells #[.int .i64 0, .int .i64 0, .slice none 0 0] 39)) (.cells #[.int .i64 fr, .int .i64 tw, .slice va bs.length vc] 39) none))
  have HN2 := hid_mk (HN.out.1.kept HW.out.2)
  have HG2 := hid_mk (grown_trans HG.out HW.out.2)
  have HO2 := hid_mk (And.intro (own_grown HO.out.1 HW.out.2) HO.out.2)
  clear d0 d1 d2 c1 HF
  generalize ((w.alloc (.cells #[.int .i64 0, .int .i64 0, .slice none 0 0] 39)).alloc (.cells #[.int .i64 fr, .int .i64 tw, .slice va bs.length vc] 39)) = w1 at *
  generalize hbx : w.heap.size + 1 = bx at *
  obtain ⟨AF, hAF⟩ : ∃ A, A = (bools (mk16 g.W)).toArray := ⟨_, rfl⟩
  have hsF : AF.size = 16 := by rw [hAF]; exact mk16_size _
  have HAF := hid_mk hAF
  have HR := hid_mk (show w1.rangeAt b 2 AF.toList by rw [hAF]; exact HN2.out.range)
  clear hAF
  refine wp_region_mix [(0, true), (1, true), (2, true), (3, true), (4, true), (5, false), (6, true)] (at0 w1 (fun W => w1.grownBy W none)) (by kernel_rfl) (by kernel_rfl) rfl (by kernel_rfl) (shut_at0 (fun m => grown_drewN _ m none)) ⟨1, rfl⟩ ?_
  repeat (refine mix_rd1 rfl rfl (fun K hK => ?_); apply Exists.intro; refine ⟨fun W hW => ?_, ?_⟩; (first | (exact exec_load51 rfl rfl hsF (range_kept HR.out hW (by simp))) | (obtain ⟨e0, e1, e2, ef⟩ := blk3 (HW.out.1.2.kept hW (by simp)); go_simp; rfl)); (go_simp; refine hK _ _ ?_; clear hK K))
  refine mix_call rfl rfl 36 #[.agg AF, .agg #[.int .i64 fr, .int .i64 tw, .slice va bs.length vc]] (fun W0 => by go_simp) ?_
  rintro W0 ⟨m0, rfl⟩
  refine (passes_any HAF.out fr tw (.slice va bs.length vc) _ HO.out.2.1 HO.out.2.2.1).mono ?_
  rintro e w2 ⟨rfl, hg⟩
  have H2 := hid_mk (grown_trans (grown_drewN w1 m0 none) hg)
  clear hg
  obtain ⟨ps, hps⟩ : ∃ x, x = pasB g.W fr tw := ⟨_, rfl⟩
  rw [← hps]
  have HPS := hid_mk hps
  clear hps
  refine ⟨_, rfl, at0 w2 (fun W => w1.grownBy W none), ⟨0, rfl⟩, shut_at0 (fun m => grown_trans H2.out (grown_drewN _ m none)), fun _ h => h, ?_⟩
  go_simp
  repeat (refine mix_rd1 rfl rfl (fun K hK => ?_); apply Exists.intro; refine ⟨fun W hW => ?_, ?_⟩; (go_simp; rfl); (go_simp; refine hK _ _ ?_; clear hK K))
  refine mix_nil ?_
  rintro W ⟨m5, rfl⟩
  have H3 := hid_mk (grown_trans H2.out (grown_drewN w2 m5 none))
  generalize w2.drewN m5 = w3 at *
  obtain ⟨r0, r1, r2, rf⟩ := blk3 (HW.out.1.1.kept H3.out (by simp))
  obtain ⟨x0, x1, x2, xf⟩ := blk3 (HW.out.1.2.kept H3.out (by simp))
  cases ps
  · go_wp2_with fail
    refine bodyPost_ret (v := .tuple #[.agg #[.int .i64 0, .int .i64 0, .slice none 0 0], .int .i64 31]) (by simp [results, Try.results14, go_sem, r0, r1, r2]) rfl (.inl ⟨HPS.out.symm, rfl, ?_⟩)
    exact set_new (set_new (set_new (grown_trans HG2.out H3.out) (Nat.le_refl _) _ _) (Nat.le_refl _) _ _) (Nat.le_refl _) _ _
  · clear r0 r1 r2 rf x0 x1 x2 xf
    go_wp2_with fail
    refine (remove_any (HN2.out.kept H3.out) k HN.out.2.1).mono ?_
    rintro e w4 ⟨rfl, v', h4⟩
    have H4 := hid_mk (NPv.pre (grown_trans HG2.out H3.out) h4)
    have hb := HN.out.2.2.blk.lt
    have hq : ∀ q, w.heap.size ≤ q → ¬ MutN b v q := fun q hq e => by
      rcases e with rfl | e
      · omega
      · have := (owns_lt HN.out.2.2.row e).2; omega
    have HX := hid_mk (And.intro ((HW.out.1.1.kept H3.out (by simp)).keeps h4.keeps (hq _ (Nat.le_refl _))) ((HW.out.1.2.kept H3.out (by simp)).keeps h4.keeps (hq _ (by omega))))
    have HO4 := hid_mk (own_keeps (own_grown HO2.out.1 H3.out) h4.keeps (fun q e f => by
      have hbt := own_grown HO2.out.1 H3.out
      rcases f with rfl | f
      · exact own_ne hbt (HN2.out.kept H3.out).blk (by decide) e.symm
      · exact rows_apart hbt (HN2.out.kept H3.out).row (by decide) q e f.symm))
    have HZ := hid_mk (show ∀ q, v'.ownBlock = some q → q ≠ w.heap.size from fun q e1 e2 => by
      rcases h4.row q e1 with h | h
      · have := (owns_lt HN.out.2.2.row h).2; omega
      · have := (HW.out.1.1.kept H3.out (by simp)).lt; omega)
    obtain ⟨x0, x1, x2, xf⟩ := blk3 HX.out.2
    clear h4 hq hb
    go_wp2_with fail
    refine (copy_any HO4.out.byt (by have := HO.out.2.2.2.2; omega) fr tw).mono ?_
    rintro e w5 ⟨u, rfl, ho, hg⟩
    obtain ⟨a', c', rfl⟩ := ho.len
    have HB5 := hid_mk (HX.out.1.kept hg (by simp))
    obtain ⟨r0, r1, r2, rf⟩ := blk3 HB5.out
    have H5 := hid_mk (And.intro (H4.out.post hg) (Own.base ho H4.out.keeps.size))
    clear ho hg x0 x1 x2 xf HX HO4 HW HB HN2 H2
    go_wp2
    have K6 : Keeps (fun q => q = w.heap.size) w5 (((w5.setCell ⟨w.heap.size, 0, none⟩ (.int .i64 fr)).setCell ⟨w.heap.size, 1, none⟩ (.int .i64 tw)).setCell ⟨w.heap.size, 2, none⟩ (.slice a' bs.length c')) :=
      Keeps.one (grown_trans (grown_trans (grown_setCell _ _ _ _) (grown_setCell _ _ _ _)) (grown_setCell _ _ _ _)) rfl
    refine bodyPost_ret (v := .tuple #[.agg #[.int .i64 fr, .int .i64 tw, .slice a' bs.length c'], .int .i64 0]) (by simp [results, Try.results14, go_sem, r0, r1, r2]) rfl (.inr ⟨HPS.out.symm, _, rfl, ?_, _, H5.out.1.keeps' K6 (fun q e => by rw [e]; exact Nat.le_refl _) (fun e => by have := HN.out.2.2.blk.lt; omega) HZ.out (fun q e => by_box H5.out.1.net.bts HB5.out (by decide) e)⟩)
    exact own_set (own_set (own_set H5.out.2 HB5.out (by decide) _ _) (HB5.out.set _ _) (by decide) _ _) ((HB5.out.set _ _).set _ _) (by decide) _ _
end Go.Proofs.Ythidpnjndhelbaa
