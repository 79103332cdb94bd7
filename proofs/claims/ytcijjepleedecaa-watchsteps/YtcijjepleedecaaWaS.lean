/- watch: Steps, the program's and the document's. -/
import Derived.Test.YtcijjepleedecaaWaM
import Derived.Test.YtcijjepleedecaaCfH
namespace Go.Proofs.Ytcijjepleedecaa.W
open Go.RowKit Go.Maps
set_option linter.unusedVariables false
set_option linter.unusedSimpArgs false
set_option maxRecDepth 100000
attribute [local go_sem] Oper.semAt_some


theorem rising_pair {l : List Int} : ∀ {p : Int}, Rising p l → (∀ x ∈ l, p < x) ∧ l.Pairwise (· < ·) := by
  induction l with
  | nil => intro p _; exact ⟨by simp, List.Pairwise.nil⟩
  | cons y r ih =>
    intro p h
    obtain ⟨h1, h2, h3⟩ := h
    obtain ⟨g1, g2⟩ := ih h3
    refine ⟨fun x hx => ?_, List.Pairwise.cons g1 g2⟩
    rcases List.mem_cons.1 hx with rfl | hx
    · exact h1
    · have := g1 x hx; omega
theorem rtB_of_rightS {l : List Int} (h : rightS l = true) : C.rtB l = true := by
  have h' := of_decide_eq_true h
  obtain ⟨m1, m2, m3⟩ := rightS_mem h
  exact C.rtB_iff.2 ⟨m1, m2, m3, (rising_pair h'.2.2).2⟩
theorem got_right {x : Ent} (h : rightE x = true) (hk : x.kind = 3) : C.rtB (gotL x.data) = true := by
  unfold rightE rightD at h
  rw [hk] at h
  have hg : getOk x.data = true := by
    simp only [Bool.and_eq_true] at h
    simpa using h.2
  rw [(got_ok hg).1]
  have := hg
  unfold getOk at this
  simp only [Bool.and_eq_true] at this
  exact rtB_of_rightS this.2
theorem rtB_le {l : List Int} (h : C.rtB l = true) : l.length ≤ 7 := (C.rtB_iff.1 h).2.1
/-- The first list that is not beside the one ahead of it. -/
def stepP : List Int → List Ent → Int
  | _, [] => 0
  | a, x :: r => if x.kind = 3 then (if C.rtB a && !C.besB a (gotL x.data) then x.index else stepP (gotL x.data) r) else stepP a r
def stepD : Bool → List Int → List Ent → Int
  | _, _, [] => 0
  | sm, a, x :: r => if x.kind = 3 then (if sm && !C.besB a (gotL x.data) then x.index else stepD true (gotL x.data) r) else stepD sm a r
theorem step_eq : ∀ (es : List Ent) (a : List Int) (sm : Bool), sm = C.rtB a → (∀ x ∈ es, rightE x = true) → stepD sm a es = stepP a es
  | [], _, _, _, _ => rfl
  | x :: r, a, sm, hs, hr => by
    unfold stepD stepP
    by_cases hk : x.kind = 3
    · rw [if_pos hk, if_pos hk, hs, step_eq r (gotL x.data) true (got_right (hr x (by simp)) hk).symm (fun y hy => hr y (by simp [hy]))]
    · rw [if_neg hk, if_neg hk]
      exact step_eq r a sm hs (fun y hy => hr y (by simp [hy]))
theorem wh_rights (b t : Int) (es : List Ent) : ∀ x ∈ whE b t es, rightE x = true := fun x hx => by
  obtain ⟨k, hk⟩ := List.mem_iff_getElem?.1 hx
  exact (goB_at _ (rightV_spec (wh_right b t es)).2.2.2.2.2 k x hk).2.2
theorem stepP_skip {a : List Int} {E : List Ent} {k : Nat} {x : Ent} (hx : E[k]? = some x) (hk : ¬ x.kind = 3) : stepP a (E.drop k) = stepP a (E.drop (k + 1)) := by
  obtain ⟨h, rfl⟩ := List.getElem?_eq_some_iff.1 hx
  rw [List.drop_eq_getElem_cons h]
  unfold stepP
  rw [if_neg hk]
  cases E.drop (k + 1) <;> rfl
theorem stepP_on {a : List Int} {E : List Ent} {k : Nat} {x : Ent} (hx : E[k]? = some x) (hk : x.kind = 3) : stepP a (E.drop k) = if C.rtB a && !C.besB a (gotL x.data) then x.index else stepP (gotL x.data) (E.drop (k + 1)) := by
  obtain ⟨h, rfl⟩ := List.getElem?_eq_some_iff.1 hx
  rw [List.drop_eq_getElem_cons h, stepP, if_pos hk]
theorem stepD_skip {s : Bool} {a : List Int} {E : List Ent} {k : Nat} {x : Ent} (hx : E[k]? = some x) (hk : ¬ x.kind = 3) : stepD s a (E.drop k) = stepD s a (E.drop (k + 1)) := by
  obtain ⟨h, rfl⟩ := List.getElem?_eq_some_iff.1 hx
  rw [List.drop_eq_getElem_cons h, stepD, if_neg hk]
theorem stepD_on {s : Bool} {a : List Int} {E : List Ent} {k : Nat} {x : Ent} (hx : E[k]? = some x) (hk : x.kind = 3) : stepD s a (E.drop k) = if s && !C.besB a (gotL x.data) then x.index else stepD true (gotL x.data) (E.drop (k + 1)) := by
  obtain ⟨h, rfl⟩ := List.getElem?_eq_some_iff.1 hx
  rw [List.drop_eq_getElem_cons h, stepD, if_pos hk]

set_option maxHeartbeats 8000000 in
theorem steps_prog (b t : Int) (lv bv : Value) (es : List Ent) (base : List Int) (w : World) (h : EntsR w lv es) (hb : C.IntsR w bv base) (hlen : es.length ≤ 10000000000000) (hbb : I64 b) (hl : base.length ≤ 17592186044416) :
    Calls Try.prog 19 #[viewV b t lv, bv] w fun e w' => e = .returned (.int .i64 (stepP base (whE b t es))) ∧ w.grownBy w' none := by
  obtain ⟨a0, c0, rfl⟩ := h.len
  obtain ⟨ba, bc, rfl⟩ := hb.len
  have HO : ∀ W, w.grownBy W none → Calls Try.prog 35 #[viewV b t (.slice a0 es.length c0)] W fun e w' => e = .returned (viewV (whB b t es) (whT b t es) (whV b t es (.slice a0 es.length c0))) ∧ W.grownBy w' none := fun W hW => orEmpty_any b t _ es W (h.kept hW) hlen hbb
  have hx := h.wh (b := b) (t := t)
  have hrs := wh_rights b t es
  have hel := wh_len b t es
  have HV : Hid (viewV b t (.slice a0 es.length c0) = .agg #[.int .i64 b, .int .i64 t, .slice a0 es.length c0]) := hid_mk rfl
  have HA := hid_mk (And.intro (VB.new w b t (.slice a0 es.length c0)) (World.grownBy_alloc w (.cells #[.int .i64 b, .int .i64 t, .slice a0 es.length c0] 26) none))
  generalize whB b t es = B at *
  generalize whT b t es = T at *
  generalize whE b t es = E at *
  generalize whV b t es (.slice a0 es.length c0) = X at *
  obtain ⟨xa, xc, rfl⟩ := hx.len
  obtain ⟨n, hn⟩ : ∃ n, n = E.length := ⟨_, rfl⟩
  rw [← hn] at hx HO
  have HE := hid_mk (show EntsR w (.slice xa n xc) E ∧ n = E.length ∧ (∀ x ∈ E, rightE x = true) ∧ C.IntsR w (.slice ba base.length bc) base from ⟨hx, hn, hrs, hb⟩)
  have hn4 : n ≤ 4096 := by omega
  have HVX : Hid (viewV B T (.slice xa n xc) = .agg #[.int .i64 B, .int .i64 T, .slice xa n xc]) := hid_mk rfl
  clear h hb hx hrs hel hn hbb hlen
  unfold viewV
  go_enter Try.func19, Try.ntmps19
  go_upto_region 2 with fail
  generalize w.alloc (.cells #[.int .i64 b, .int .i64 t, .slice a0 es.length c0] 26) = w1 at *
  obtain ⟨u0, u1, u2⟩ := HA.out.1.cells
  go_wp2_with fail
  clear u0 u1 u2
  rw [← HV.out]
  refine (HO w1 HA.out.2).mono ?_
  rintro e w2 ⟨rfl, hg⟩
  have H2 := hid_mk (show w.grownBy w2 none from grown_trans HA.out.2 hg)
  clear hg HO HA
  rw [HVX.out]
  have hfv := fun W => field_view B T (.slice xa n xc) W
  go_wp2_with fail
  clear hfv
  go_loopw [5, 15] (fun av iv wr => ∃ (k : Nat) (la : Option Addr) (lc : Nat) (l : List Int), k ≤ n ∧ av = .slice la l.length lc ∧ iv = .int .i64 k ∧ l.length ≤ 17592186044416 ∧ Hid (w.grownBy wr none ∧ C.IntsR wr (.slice la l.length lc) l ∧ stepP l (E.drop k) = stepP base E)) (fun _ iv _ => n - (intOf iv).toNat)
  case atStart => exact ⟨0, ba, bc, base, Nat.zero_le _, rfl, rfl, hl, hid_mk ⟨H2.out, HE.out.2.2.2.kept H2.out, by simp⟩⟩
  case round =>
    obtain ⟨k, la, lc, l, hk, rfl, rfl, hll, H⟩ := hrel
    rename World => wr
    by_cases hkn : k < n
    · have hkn' : (k : Int) < n := by omega
      have hk4 : (k : Int) < 5000 := by omega
      obtain ⟨x, hx⟩ : ∃ x, E[k]? = some x := ⟨E[k]'(by rw [← HE.out.2.1]; exact hkn), List.getElem?_eq_getElem _⟩
      obtain ⟨eb, eo, hae, -, hcs⟩ := (EntsR.at (es := E) (by have h := HE.out.1; exact h) (by rw [← HE.out.2.1]; omega))
      obtain ⟨dv, g0, g1, g2, g3, hxb, hxl⟩ := hcs k x hx
      obtain ⟨da, dc, hdv⟩ := hxb.len
      rw [hdv] at g3 hxb
      subst hae
      have g0 := H.out.1.cell g0 (by simp)
      have g1 := H.out.1.cell g1 (by simp)
      have g2 := H.out.1.cell g2 (by simp)
      have g3 := H.out.1.cell g3 (by simp)
      have hre : rightE x = true := HE.out.2.2.1 x (List.mem_of_getElem? hx)
      have ga := World.grownBy_alloc wr (.cells #[.int .i64 x.term, .int .i64 x.index, .int .i64 x.kind, .slice da x.data.length dc] 55) none
      have H3 := hid_mk (show EB (wr.alloc (.cells #[.int .i64 x.term, .int .i64 x.index, .int .i64 x.kind, .slice da x.data.length dc] 55)) wr.heap.size x (.slice da x.data.length dc) ∧ w.grownBy (wr.alloc (.cells #[.int .i64 x.term, .int .i64 x.index, .int .i64 x.kind, .slice da x.data.length dc] 55)) none ∧ wr.grownBy (wr.alloc (.cells #[.int .i64 x.term, .int .i64 x.index, .int .i64 x.kind, .slice da x.data.length dc] 55)) none from ⟨heap_alloc_new _ _, grown_trans H.out.1 ga, ga⟩)
      have HX := hid_mk (And.intro hx (And.intro hre (And.intro hxb hxl)))
      clear hx hcs hxb hxl hdv ga hre
      go_upto_region 5 with fail
      clear g0 g1 g2 g3
      generalize wr.alloc (.cells #[.int .i64 x.term, .int .i64 x.index, .int .i64 x.kind, .slice da x.data.length dc] 55) = w3 at *
      obtain ⟨q7, hq7⟩ : ∃ q, q = wr.heap.size := ⟨_, rfl⟩
      rw [← hq7] at H3 ⊢
      clear hq7
      obtain ⟨e0, e1, e2, e3, _⟩ := H3.out.1.cells
      by_cases hk3 : x.kind = 3
      · have hso := stepP_on (a := l) HX.out.1 hk3
        rw [H.out.2.2] at hso
        have HS := hid_mk hso
        have hgr := got_right HX.out.2.1 hk3
        have HG := hid_mk hgr
        clear hso hgr
        rw [hk3] at e2
        go_wp2_with fail
        clear e0 e1 e2 e3
        refine (getServers_any _ x.data w3 (HX.out.2.2.1.kept H3.out.2.1) HX.out.2.2.2).mono ?_
        rintro e w4 ⟨na, nc, rfl, hown, hg⟩
        have H4 := hid_mk (show C.IntsR w4 (.slice na (gotL x.data).length nc) (gotL x.data) ∧ w.grownBy w4 none ∧ w3.grownBy w4 none from ⟨hown.ints, grown_trans H3.out.2.1 hg, hg⟩)
        have hgl : (gotL x.data).length ≤ 17592186044416 := by have := rtB_le HG.out; omega
        clear hown hg
        go_wp2_with fail
        refine (C.right_any _ l w4 hll (H.out.2.1.kept (grown_trans H3.out.2.2 H4.out.2.2))).mono ?_
        rintro e w5 ⟨rfl, hg⟩
        have H5 := hid_mk (show w.grownBy w5 none ∧ w4.grownBy w5 none from ⟨grown_trans H4.out.2.1 hg, hg⟩)
        clear hg
        rcases Bool.eq_false_or_eq_true (C.rtB l) with hr | hr
        rotate_left
        · have HN := hid_mk (show stepP (gotL x.data) (E.drop (k + 1)) = stepP base E from by rw [HS.out, hr]; rfl)
          rw [hr]
          go_wp2_with fail
          go_roundw
          case rel => exact ⟨k + 1, na, nc, gotL x.data, by omega, rfl, by first | rfl | (congr 1; done) | (congr 1; omega), hgl, hid_mk ⟨H5.out.1, H4.out.1.kept H5.out.2, HN.out⟩⟩
          case measure => simp [intOf]; omega
        · rw [hr]
          go_wp2_with fail
          refine (C.beside_any _ _ l (gotL x.data) w5 hll hgl (H.out.2.1.kept (grown_trans H3.out.2.2 (grown_trans H4.out.2.2 H5.out.2))) (H4.out.1.kept H5.out.2)).mono ?_
          rintro e w6 ⟨rfl, hg⟩
          have H6 := hid_mk (show w.grownBy w6 none ∧ w5.grownBy w6 none from ⟨grown_trans H5.out.1 hg, hg⟩)
          clear hg
          rcases Bool.eq_false_or_eq_true (C.besB l (gotL x.data)) with hs | hs
          · have HN := hid_mk (show stepP (gotL x.data) (E.drop (k + 1)) = stepP base E from by rw [HS.out, hr, hs]; rfl)
            rw [hs]
            go_wp2_with fail
            go_roundw
            case rel => exact ⟨k + 1, na, nc, gotL x.data, by omega, rfl, by first | rfl | (congr 1; done) | (congr 1; omega), hgl, hid_mk ⟨H6.out.1, H4.out.1.kept (grown_trans H5.out.2 H6.out.2), HN.out⟩⟩
            case measure => simp [intOf]; omega
          · have HN := hid_mk (show stepP base E = x.index from by rw [HS.out, hr, hs]; rfl)
            rw [hs]
            obtain ⟨e0, e1, e2, e3, _⟩ := (EB.kept H3.out.1 (grown_trans H4.out.2.2 (grown_trans H5.out.2 H6.out.2))).cells
            go_wp2_with fail
            go_ret
            exact ⟨by rw [HN.out]; rfl, H6.out.1⟩
      · have HN := hid_mk (show stepP l (E.drop (k + 1)) = stepP base E from by rw [← H.out.2.2]; exact (stepP_skip HX.out.1 hk3).symm)
        have hk3' : (x.kind != 3) = true := by simpa using hk3
        go_wp2_with fail
        go_roundw
        case rel => exact ⟨k + 1, la, lc, l, by omega, rfl, by first | rfl | (congr 1; done) | (congr 1; omega), hll, hid_mk ⟨H3.out.2.1, H.out.2.1.kept H3.out.2.2, HN.out⟩⟩
        case measure => simp [intOf]; omega
    · have hkn' : ¬ (k : Int) < n := by omega
      have HF := hid_mk (show stepP base E = 0 ∧ w.grownBy wr none from ⟨by rw [← H.out.2.2, List.drop_eq_nil_of_le (by rw [← HE.out.2.1]; omega)]; rfl, H.out.1⟩)
      clear H
      go_wp2
      go_ret
      exact ⟨by rw [HF.out.1]; rfl, HF.out.2⟩
end Go.Proofs.Ytcijjepleedecaa.W
