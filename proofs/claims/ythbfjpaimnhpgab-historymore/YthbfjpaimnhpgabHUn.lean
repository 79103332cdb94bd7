/- history: untrue. -/
import Derived.Test.YthbfjpaimnhpgabHDo
namespace Go.Proofs.Ythbfjpaimnhpgab
open Go.RowKit Go.Maps
set_option linter.unusedVariables false
set_option linter.unusedSimpArgs false
set_option maxRecDepth 100000

/-- The model of untrue, in memory. -/
structure UnI (w0 W : World) (b mb : Nat) (vm : Value) (R : List RV) (s : Nat) : Prop where
  m : IsM W b vm R s
  box : Boxed W mb 48 (.pointer (some ⟨b, 0, none⟩))
  rd : ∀ p ∈ R, Byt w0 p.2 p.1
  gr : w0.grownBy W none
  new : ∀ k, MF b vm k → w0.heap.size ≤ k
theorem UnI.mb {w0 W : World} {b mb : Nat} {vm : Value} {R : List RV} {s : Nat} (h : UnI w0 W b mb vm R s) : ¬ MF b vm mb := by
  rintro (e | e)
  · have h1 := h.m.blk
    have h2 := h.box
    unfold Blk at h1
    unfold Boxed at h2
    rw [e, h1] at h2
    cases h2
  · exact h.m.row.tag h.box (by decide) e.symm
theorem UnI.grown {w0 W W' : World} {b mb : Nat} {vm : Value} {R : List RV} {s : Nat} (h : UnI w0 W b mb vm R s) (hg : W.grownBy W' none) : UnI w0 W' b mb vm R s :=
  ⟨h.m.grown hg, h.box.kept hg (by simp), h.rd, grown_trans h.gr hg, h.new⟩
/-- Behind a call. -/
theorem UnI.do {w0 W W' : World} {b mb : Nat} {vm : Value} {R : List RV} {s : Nat} (h : UnI w0 W b mb vm R s) {x : CE} (hx : InC w0 x) (hd : DoP W W' b vm R s x) : ∃ vm' R' s', UnI w0 W' b mb vm' R' s' ∧ Mo.mk s' (R'.map (·.1)) = doM ⟨s, R.map (·.1)⟩ x.g ∧ s' + R'.length ≤ s + R.length + 1 := by
  obtain ⟨vm', R', s', h1, h2, h3, h4, h5⟩ := hd
  refine ⟨vm', R', s', ⟨h1, (h2.keeps.block mb h.box.lt h.mb).trans h.box, fun p hp => ?_, Keeps.grown h.gr h2.keeps h.new, fun k e => ?_⟩, h3, h5⟩
  · rcases h4 p hp with hp | rfl
    · exact h.rd p hp
    · exact hx.d
  · rcases h2.new k e with e | e
    · exact h.new k e
    · exact Nat.le_trans h.gr.size e
set_option maxHeartbeats 4000000 in
theorem untrueC_any {w0 w : World} {b mb : Nat} {vm : Value} {R : List RV} {s : Nat} (h : UnI w0 w b mb vm R s) (x : CE) (hx : InC w0 x) (hl : x.R.length ≤ 5864062014805) (hf : s + R.length + 1 ≤ 5864062014805) :
    Calls Try.prog 22 #[.agg (calC x).toArray, .pointer (some ⟨mb, 0, none⟩)] w fun e w' => e = .returned (.bool (!fitsM ⟨s, R.map (·.1)⟩ x.g && x.g.an)) ∧ ∃ vm' R' s', UnI w0 w' b mb vm' R' s' ∧ Mo.mk s' (R'.map (·.1)) = doM ⟨s, R.map (·.1)⟩ x.g ∧ s' + R'.length ≤ s + R.length + 1 := by
  obtain ⟨xa, xc, hxd⟩ := hx.d.len
  obtain ⟨ra, rc, hxr⟩ := hx.r.len
  have hC : (calC x).toArray = #[.int .i64 x.g.c, .int .i64 x.g.b, .int .i64 x.g.e, .int .i64 x.g.k, .int .i64 x.g.at', .bool x.g.an, .int .i64 x.g.fr, .int .i64 x.g.mo, .int .i64 x.g.nu, .int .i64 x.g.st, .slice xa x.g.d.length xc, .slice ra x.R.length rc] := by unfold calC; rw [hxd, hxr]
  rw [hC]
  have g1 := World.grownBy_alloc w (.cells #[.int .i64 x.g.c, .int .i64 x.g.b, .int .i64 x.g.e, .int .i64 x.g.k, .int .i64 x.g.at', .bool x.g.an, .int .i64 x.g.fr, .int .i64 x.g.mo, .int .i64 x.g.nu, .int .i64 x.g.st, .slice xa x.g.d.length xc, .slice ra x.R.length rc] 42) none
  have hb1 := blk_alloc w #[.int .i64 x.g.c, .int .i64 x.g.b, .int .i64 x.g.e, .int .i64 x.g.k, .int .i64 x.g.at', .bool x.g.an, .int .i64 x.g.fr, .int .i64 x.g.mo, .int .i64 x.g.nu, .int .i64 x.g.st, .slice xa x.g.d.length xc, .slice ra x.R.length rc] 42
  have h1 := h.grown g1
  have hqm : ¬ MF b vm w.heap.size := fun e => by have := h.m.lt e; omega
  have hD := do_any h1.m (fun p hp => (h1.rd p hp).kept h1.gr) x (hx.kept h1.gr) hl hf
  rw [hC] at hD
  have HD := hid_mk hD
  have H1 := hid_mk (And.intro h1 hx)
  have c0 := h1.box.cell
  have HB := hid_mk (And.intro hb1 hqm)
  clear h g1 h1 hx hb1 hqm hxd hxr hD hC
  go_enter Try.func22, Try.ntmps22
  go_upto_region 1 with fail
  generalize (w.alloc (.cells #[.int .i64 x.g.c, .int .i64 x.g.b, .int .i64 x.g.e, .int .i64 x.g.k, .int .i64 x.g.at', .bool x.g.an, .int .i64 x.g.fr, .int .i64 x.g.mo, .int .i64 x.g.nu, .int .i64 x.g.st, .slice xa x.g.d.length xc, .slice ra x.R.length rc] 42)) = w1 at *
  obtain ⟨q, hq⟩ : ∃ q, q = w.heap.size := ⟨_, rfl⟩
  rw [← hq] at HB ⊢
  clear hq
  obtain ⟨d0, d1, d2, d3, d4, d5, d6, d7, d8, d9, d10, d11, df⟩ := blk12 HB.out.1
  generalize hfm : fitsM ⟨s, R.map (·.1)⟩ x.g = fb at *
  have HFM := hid_mk hfm
  clear hfm
  cases fb
  · go_wp2_with (go_at_call 23; refine HD.out.mono ?_; rintro e w2 ⟨rfl, hd⟩; have h9 := (H1.out.1.do H1.out.2 hd); have hb2 := hd; have k5 : w2.cell? ⟨q, 5, none⟩ = some (.bool x.g.an) := (by obtain ⟨_, _, _, _, h8, _⟩ := hd; exact ((HB.out.1.keeps h8.keeps HB.out.2).cell 5)); clear hd hb2; replace h9 := hid_mk h9)
    go_ret
    exact ⟨ret_bool (by simp [HFM.out]), h9.out⟩
  · go_wp2_with (go_at_call 23; refine HD.out.mono ?_; rintro e w2 ⟨rfl, hd⟩; have h9 := (H1.out.1.do H1.out.2 hd); clear hd; replace h9 := hid_mk h9)
    go_ret
    exact ⟨ret_bool (by simp [HFM.out]), h9.out⟩
def untrueI (l : List Ca) : Int := match untrueG ⟨0, []⟩ l with | some i => (i : Int) | none => -1
theorem untrueI_some {l : List Ca} {k : Nat} (h : untrueG ⟨0, []⟩ l = some k) : untrueI l = k := by unfold untrueI; rw [h]
theorem untrueI_none {l : List Ca} (h : untrueG ⟨0, []⟩ l = none) : untrueI l = -1 := by unfold untrueI; rw [h]
set_option maxHeartbeats 4000000 in
theorem indexU_any {w0 w : World} {v : Value} {L : List CE} (h : CsR w0 v L) (hl : L.length ≤ 2000) (hR : ∀ x ∈ L, x.R.length ≤ 5864062014805) {b mb : Nat} {vm : Value} (hu : UnI w0 w b mb vm [] 0) :
    Calls Try.prog 21 #[v, .func (.func 22) #[] #[.pointer (some ⟨mb, 0, none⟩)]] w fun e w' => e = .returned (.int .i64 (untrueI (gs L))) ∧ w0.grownBy w' none := by
  obtain ⟨va, vc, hv⟩ := h.len
  have HL := hid_mk (And.intro h hR)
  have HV := hid_mk hv
  have H0 := hid_mk hu
  rw [hv]
  clear h hv hR hu
  go_enter Try.func21, Try.ntmps21
  go_wp2_with fail
  go_loopg [8] L.length (fun gg iv W => ∃ (k : Nat) (vm : Value) (R : List RV) (s : Nat), k ≤ L.length ∧ gg = L.length - k ∧ iv = .int .i64 k ∧ Hid (UnI w0 W b mb vm R s ∧ s + R.length ≤ k ∧ untrueG ⟨0, []⟩ (gs L) = (untrueG ⟨s, R.map (·.1)⟩ ((gs L).drop k)).map (· + k)))
  case atStart => exact ⟨0, vm, [], 0, Nat.zero_le _, rfl, rfl, hid_mk ⟨H0.out, by simp, by simp⟩⟩
  case round =>
    clear H0
    obtain ⟨k, vm, R, s, hk, hgk, rfl, H⟩ := hrel
    rename World => W
    by_cases hlt : k < L.length
    · have hlt' : (k : Int) < L.length := by omega
      obtain ⟨lb, off, cap, he, hc⟩ := HL.out.1.cells hlt
      rw [HV.out] at he
      injection he with e1 e2 e3
      clear e2 e3
      subst e1
      obtain ⟨d0, d1, d2, d3, d4, d5, d6, d7, d8, d9, d10, d11⟩ := hc W H.out.1.gr
      have hin := HL.out.1.ins _ (List.getElem_mem hlt)
      have hRl := HL.out.2 _ (List.getElem_mem hlt)
      have hg : k < (gs L).length := by simp [gs]; exact hlt
      have HD := hid_mk (show (gs L).drop k = L[k].g :: (gs L).drop (k + 1) from by rw [List.drop_eq_getElem_cons hg]; simp [gs])
      have hU := untrueC_any H.out.1 L[k] hin hRl (by have := H.out.2.1; omega)
      obtain ⟨xa, xc, hxd⟩ := hin.d.len
      obtain ⟨ra, rc, hxr⟩ := hin.r.len
      rw [hxd] at d10
      rw [hxr] at d11
      unfold calC at hU
      rw [hxd, hxr] at hU
      have HU := hid_mk hU
      clear hc hxd hxr hin hRl hg hU
      generalize L[k] = x at *
      cases hb : (!fitsM ⟨s, R.map (·.1)⟩ x.g && x.g.an)
      · rw [hb] at HU
        have HN := hid_mk (show untrueG ⟨0, []⟩ (gs L) = (untrueG (doM ⟨s, R.map (·.1)⟩ x.g) ((gs L).drop (k + 1))).map (· + (k + 1)) from by
          rw [H.out.2.2, HD.out]
          simp only [untrueG]
          rw [if_neg (by rw [hb]; simp)]
          cases untrueG (doM ⟨s, R.map (·.1)⟩ x.g) ((gs L).drop (k + 1)) <;> simp; omega)
        clear hb
        go_wp2_with (go_at_call 22; refine HU.out.mono ?_; rintro e w2 ⟨rfl, hd⟩; replace hd := hid_mk hd)
        obtain ⟨vm', R', s', h1, h2, h3⟩ := hd.out
        go_roundg (L.length - (k + 1))
        case measure => omega
        case rel => exact ⟨k + 1, vm', R', s', by omega, rfl, by go_num, hid_mk ⟨h1, by have := H.out.2.1; omega, by rw [h2]; exact HN.out⟩⟩
      · rw [hb] at HU
        have HN := hid_mk (show untrueG ⟨0, []⟩ (gs L) = some k from by
          rw [H.out.2.2, HD.out]
          simp only [untrueG]
          rw [if_pos hb]; simp)
        clear hb
        go_wp2_with (go_at_call 22; refine HU.out.mono ?_; rintro e w2 ⟨rfl, hd⟩; replace hd := hid_mk hd)
        obtain ⟨vm', R', s', h1, h2, h3⟩ := hd.out
        go_ret
        exact ⟨ret_int (untrueI_some HN.out).symm, h1.gr⟩
    · have hlt' : ¬ (k : Int) < L.length := by omega
      have HN := hid_mk (show untrueG ⟨0, []⟩ (gs L) = none from by rw [H.out.2.2, List.drop_eq_nil_of_le (by simp [gs]; omega)]; rfl)
      go_wp2_with fail
      go_ret
      exact ⟨ret_int (untrueI_none HN.out).symm, H.out.1.gr⟩
theorem untrue_any {w : World} {v : Value} {L : List CE} (h : CsR w v L) (hl : L.length ≤ 2000) (hR : ∀ x ∈ L, x.R.length ≤ 5864062014805) : Calls Try.prog 14 #[v] w fun e w' => e = .returned (.int .i64 (untrueI (gs L))) ∧ w.grownBy w' none := by
  have HL := hid_mk (And.intro h hR)
  obtain ⟨va, vc, rfl⟩ := h.len
  clear h hR
  go_enter Try.func14, Try.ntmps14
  go_wp2_with (go_at_call 20; refine (mod_new _).mono ?_; rintro e w1 ⟨rfl, h1, hg⟩; have H1 := hid_mk (And.intro h1 hg); clear h1 hg)
  have hu : UnI w (w1.alloc (.cells #[.pointer (some ⟨w.heap.size, 0, none⟩)] 48)) w.heap.size w1.heap.size (.slice none 0 0) [] 0 :=
    ⟨H1.out.1.grown (World.grownBy_alloc _ _ none), Boxed.new _ _ _, (fun p hp => by cases hp), grown_trans H1.out.2 (World.grownBy_alloc _ _ none), fun k e => by
      rcases e with e | e
      · omega
      · cases e⟩
  refine (indexU_any HL.out.1 hl HL.out.2 hu).mono ?_
  clear hu
  rintro e w2 ⟨rfl, h2⟩
  replace h2 := hid_mk h2
  go_wp2_with fail
  go_ret
  exact ⟨rfl, h2.out⟩
end Go.Proofs.Ythbfjpaimnhpgab
