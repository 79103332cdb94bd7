/- watch: the document's Steps. -/
import Derived.Test.YtcijjepleedecaaWaS
namespace Go.Proofs.Ytcijjepleedecaa.W
open Go.RowKit Go.Maps
set_option linter.unusedVariables false
set_option linter.unusedSimpArgs false
set_option maxRecDepth 100000
attribute [local go_sem] Oper.semAt_some


set_option maxHeartbeats 8000000 in
theorem rsteps_any (b t : Int) (lv bv : Value) (es : List Ent) (base : List Int) (w : World) (h : EntsR w lv es) (hb : C.IntsR w bv base) (hlen : es.length ≤ 10000000000000) (hl : base.length ≤ 17592186044416) :
    Calls Try.prog 20 #[viewV b t lv, bv] w fun e w' => e = .returned (.int .i64 (stepD (C.rtB base) base (whE b t es))) ∧ w.grownBy w' none := by
  obtain ⟨a0, c0, rfl⟩ := h.len
  obtain ⟨ba, bc, rfl⟩ := hb.len
  have HO : ∀ W, w.grownBy W none → Calls Try.prog 30 #[viewV b t (.slice a0 es.length c0)] W fun e w' => e = .returned (viewV (whB b t es) (whT b t es) (whV b t es (.slice a0 es.length c0))) ∧ W.grownBy w' none := fun W hW => whole_any b t _ es W (h.kept hW) hlen
  have hx := h.wh (b := b) (t := t)
  have hrs := wh_rights b t es
  have hel := wh_len b t es
  have HV : Hid (viewV b t (.slice a0 es.length c0) = .agg #[.int .i64 b, .int .i64 t, .slice a0 es.length c0]) := hid_mk rfl
  have HA := hid_mk (And.intro (RB.new w b t (.slice a0 es.length c0)) (World.grownBy_alloc w (.cells #[.int .i64 b, .int .i64 t, .slice a0 es.length c0] 30) none))
  generalize whB b t es = B at *
  generalize whT b t es = T at *
  generalize whE b t es = E at *
  generalize whV b t es (.slice a0 es.length c0) = X at *
  obtain ⟨xa, xc, rfl⟩ := hx.len
  obtain ⟨n, hn⟩ : ∃ n, n = E.length := ⟨_, rfl⟩
  rw [← hn] at hx HO
  have HE := hid_mk (show EntsR w (.slice xa n xc) E ∧ n = E.length ∧ (∀ x ∈ E, rightE x = true) ∧ C.IntsR w (.slice ba base.length bc) base from ⟨hx, hn, hrs, hb⟩)
  have hn4 : n ≤ 4096 := by omega
  have HVX : Hid (viewV B T (.slice xa n xc) = .agg #[.int .i64 B, .int .i64 T, .slice xa n xc]) := hid_mk rfl
  clear h hb hx hrs hel hn hlen
  obtain ⟨S0, hS0⟩ : ∃ S, S = C.rtB base := ⟨_, rfl⟩
  have HS0 := hid_mk hS0
  rw [← hS0]
  clear hS0
  unfold viewV
  go_enter Try.func20, Try.ntmps20
  go_upto_region 1 with fail
  generalize w.alloc (.cells #[.int .i64 b, .int .i64 t, .slice a0 es.length c0] 30) = w1 at *
  obtain ⟨q2, hq2⟩ : ∃ q, q = w.heap.size := ⟨_, rfl⟩
  rw [← hq2] at HA ⊢
  have HQ := hid_mk (show w.heap.size ≤ q2 by omega)
  clear hq2
  obtain ⟨u0, u1, u2⟩ := HA.out.1.cells
  go_wp2_with fail
  clear u0 u1 u2
  rw [← HV.out]
  refine (HO w1 HA.out.2).mono ?_
  rintro e w2 ⟨rfl, hg⟩
  have hk := HA.out.1.kept hg (row := none) (by simp)
  obtain ⟨s1, s2⟩ := hk.put B T (.slice xa n xc)
  have H2 := hid_mk (And.intro s1 (grown_new (grown_trans HA.out.2 hg) s2 HQ.out))
  obtain ⟨u0, u1, u2⟩ := hk.cells
  have z0 := hk.frozen (i := 0)
  have z1 := hk.frozen (i := 1)
  have z2 := hk.frozen (i := 2)
  clear hg hk s1 s2 HO HA
  rw [HVX.out]
  go_upto_region 2 with fail
  clear u0 u1 u2 z0 z1 z2
  generalize ((w2.setCell ⟨q2, 0, none⟩ (.int .i64 B)).setCell ⟨q2, 1, none⟩ (.int .i64 T)).setCell ⟨q2, 2, none⟩ (.slice xa n xc) = w3 at *
  go_wp2_with fail
  refine (C.rright_any _ base w3 hl (HE.out.2.2.2.kept H2.out.2)).mono ?_
  rintro e w4 ⟨rfl, hg⟩
  have H4 := hid_mk (show RB w4 q2 B T (.slice xa n xc) ∧ w.grownBy w4 none from ⟨H2.out.1.kept hg (by simp), grown_trans H2.out.2 hg⟩)
  clear hg H2
  rw [← HS0.out]
  go_wp2_with fail
  go_loopw [5, 6, 7] (fun av sv iv wr => ∃ (k : Nat) (la : Option Addr) (lc : Nat) (l : List Int) (s : Bool), k ≤ n ∧ av = .slice la l.length lc ∧ sv = .bool s ∧ iv = .int .i64 k ∧ l.length ≤ 17592186044416 ∧ Hid (w.grownBy wr none ∧ w4.grownBy wr none ∧ C.IntsR wr (.slice la l.length lc) l ∧ stepD s l (E.drop k) = stepD S0 base E)) (fun _ _ iv _ => n - (intOf iv).toNat)
  case atStart => exact ⟨0, ba, bc, base, S0, Nat.zero_le _, rfl, rfl, rfl, hl, hid_mk ⟨H4.out.2, grown_refl _ _, HE.out.2.2.2.kept H4.out.2, by simp⟩⟩
  case round =>
    obtain ⟨k, la, lc, l, s, hk, rfl, rfl, rfl, hll, H⟩ := hrel
    rename World => wr
    obtain ⟨u0, u1, u2⟩ := (H4.out.1.kept H.out.2.1 (by simp)).cells
    by_cases hkn : k < n
    · have hkn' : (k : Int) < n := by omega
      have hk4 : (k : Int) < 5000 := by omega
      obtain ⟨x, hx⟩ : ∃ x, E[k]? = some x := ⟨E[k]'(by rw [← HE.out.2.1]; exact hkn), List.getElem?_eq_getElem _⟩
      obtain ⟨eb, eo, hae, -, hcs⟩ := (EntsR.at (es := E) (by have h := HE.out.1; exact h) (by rw [← HE.out.2.1]; omega))
      obtain ⟨dv, g0, g1, g2, g3, hxb, hxl⟩ := hcs k x hx
      obtain ⟨da, dc, hdv⟩ := hxb.len
      rw [hdv] at g3 hxb
      subst hae
      have HC : ∀ W, w.grownBy W none → W.cell? ⟨eb, eo + k * 4 + 1, none⟩ = some (.int .i64 x.index) := fun W hW => hW.cell g1 (by simp)
      have g2 := H.out.1.cell g2 (by simp)
      have g3 := H.out.1.cell g3 (by simp)
      have hre : rightE x = true := HE.out.2.2.1 x (List.mem_of_getElem? hx)
      have HX := hid_mk (And.intro hx (And.intro hre (And.intro hxb hxl)))
      clear hx hcs hxb hxl hdv hre g0 g1
      by_cases hk3 : x.kind = 3
      · have hso := stepD_on (s := s) (a := l) HX.out.1 hk3
        rw [H.out.2.2.2] at hso
        have HS := hid_mk hso
        have hgr := got_right HX.out.2.1 hk3
        have HG := hid_mk hgr
        clear hso hgr
        rw [hk3] at g2
        go_wp2_with fail
        clear u0 u1 u2 g2 g3
        refine (rgetServers_any _ x.data wr (HX.out.2.2.1.kept H.out.1) HX.out.2.2.2).mono ?_
        rintro e w5 ⟨na, nc, rfl, hown, hg⟩
        have H5 := hid_mk (show C.IntsR w5 (.slice na (gotL x.data).length nc) (gotL x.data) ∧ wr.grownBy w5 none from ⟨hown.ints, hg⟩)
        have hgl : (gotL x.data).length ≤ 17592186044416 := by have := rtB_le HG.out; omega
        clear hown hg
        cases s with
        | false =>
          have HN := hid_mk (show stepD true (gotL x.data) (E.drop (k + 1)) = stepD S0 base E from by rw [HS.out]; rfl)
          go_wp2_with fail
          go_roundw
          case rel => exact ⟨k + 1, na, nc, gotL x.data, true, by omega, rfl, rfl, by first | rfl | (congr 1; done) | (congr 1; omega), hgl, hid_mk ⟨grown_trans H.out.1 H5.out.2, grown_trans H.out.2.1 H5.out.2, H5.out.1, HN.out⟩⟩
          case measure => simp [intOf]; omega
        | true =>
          go_wp2_with fail
          refine (C.rbeside_any _ _ l (gotL x.data) w5 hll hgl (H.out.2.2.1.kept H5.out.2) H5.out.1).mono ?_
          rintro e w6 ⟨rfl, hg⟩
          have H6 := hid_mk (show wr.grownBy w6 none ∧ w5.grownBy w6 none from ⟨grown_trans H5.out.2 hg, hg⟩)
          clear hg
          rcases Bool.eq_false_or_eq_true (C.besB l (gotL x.data)) with hs | hs
          · have HN := hid_mk (show stepD true (gotL x.data) (E.drop (k + 1)) = stepD S0 base E from by rw [HS.out, hs]; rfl)
            rw [hs]
            go_wp2_with fail
            go_roundw
            case rel => exact ⟨k + 1, na, nc, gotL x.data, true, by omega, rfl, rfl, by first | rfl | (congr 1; done) | (congr 1; omega), hgl, hid_mk ⟨grown_trans H.out.1 H6.out.1, grown_trans H.out.2.1 H6.out.1, H5.out.1.kept H6.out.2, HN.out⟩⟩
            case measure => simp [intOf]; omega
          · have HN := hid_mk (show stepD S0 base E = x.index from by rw [HS.out, hs]; rfl)
            rw [hs]
            obtain ⟨u0, u1, u2⟩ := (H4.out.1.kept (grown_trans H.out.2.1 H6.out.1) (by simp)).cells
            have g1 := HC w6 (grown_trans H.out.1 H6.out.1)
            go_wp2_with fail
            go_ret
            exact ⟨by rw [HN.out]; rfl, grown_trans H.out.1 H6.out.1⟩
      · have HN := hid_mk (show stepD s l (E.drop (k + 1)) = stepD S0 base E from by rw [← H.out.2.2.2]; exact (stepD_skip HX.out.1 hk3).symm)
        have hk3' : (x.kind != 3) = true := by simpa using hk3
        go_wp2_with fail
        go_roundw
        case rel => exact ⟨k + 1, la, lc, l, s, by omega, rfl, rfl, by first | rfl | (congr 1; done) | (congr 1; omega), hll, hid_mk ⟨H.out.1, H.out.2.1, H.out.2.2.1, HN.out⟩⟩
        case measure => simp [intOf]; omega
    · have hkn' : ¬ (k : Int) < n := by omega
      have HF := hid_mk (show stepD S0 base E = 0 ∧ w.grownBy wr none from ⟨by rw [← H.out.2.2.2, List.drop_eq_nil_of_le (by rw [← HE.out.2.1]; omega)]; rfl, H.out.1⟩)
      clear H
      go_wp2
      go_ret
      exact ⟨by rw [HF.out.1]; rfl, HF.out.2⟩
end Go.Proofs.Ytcijjepleedecaa.W
