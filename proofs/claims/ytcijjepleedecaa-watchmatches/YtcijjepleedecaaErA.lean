/- The document's: row, Right, last, at. -/
import Derived.Test.YtcijjepleedecaaEnQ
namespace Go.Proofs.Ytcijjepleedecaa.W
open Go.RowKit Go.Maps
set_option linter.unusedVariables false
set_option linter.unusedSimpArgs false
set_option maxRecDepth 100000

theorem int_eq {z z' : Int} (h : z = z') : Ending.returned (.int .i64 z) = .returned (.int .i64 z') := by rw [h]
set_option maxHeartbeats 4000000 in
theorem rrow_any (i t : Int) (lv : Value) (es : List Ent) (w : World) (h : EntsR w lv es) (hlen : es.length ≤ 4096) (hi : 0 ≤ i ∧ i ≤ 1000000000000) : Calls Try.prog 44 #[.int .i64 i, .int .i64 t, lv] w fun e w' => e = .returned (.bool (goB i t es)) ∧ w.grownBy w' none := by
  obtain ⟨a, c, rfl⟩ := h.len
  have HE := hid_mk h
  clear h
  go_enter Try.func44, Try.ntmps44
  go_wp2_with fail
  go_loopw [1, 7] (fun tv kv wr => ∃ (k : Nat) (tm : Int), k ≤ es.length ∧ kv = .int .i64 k ∧ tv = .int .i64 tm ∧ Hid (w.grownBy wr none ∧ goB i t es = goB (i + k) tm (es.drop k))) (fun _ kv _ => es.length - (intOf kv).toNat)
  case atStart => exact ⟨0, t, Nat.zero_le _, rfl, rfl, hid_mk ⟨grown_refl _ _, by simp⟩⟩
  case round =>
    obtain ⟨k, tm, hk, rfl, rfl, H⟩ := hrel
    rename World => wr
    by_cases hlt : k < es.length
    · have hlt' : (k : Int) < es.length := by omega
      obtain ⟨x, hx⟩ : ∃ x, es[k]? = some x := ⟨es[k], List.getElem?_eq_getElem hlt⟩
      obtain ⟨eb, off, hae, hcap, hcs⟩ := (HE.out.kept H.out.1).at (by omega)
      obtain ⟨dv, q0, q1, q2, q3, hxb, hxl⟩ := hcs k x hx
      obtain ⟨da, dc, hdv⟩ := hxb.len
      subst hae
      subst hdv
      have HGO := hid_mk (goB_drop H.out.2 hx)
      have HX := hid_mk (And.intro hxb hxl)
      clear hx hxb hxl hcs
      have hV : entV x (.slice da x.data.length dc) = .agg #[.int .i64 x.term, .int .i64 x.index, .int .i64 x.kind, .slice da x.data.length dc] := rfl
      have HV := hid_mk hV
      clear hV
      go_wp2_with fail
      rw [← HV.out]
      refine (rrightEntry_any x _ wr HX.out.1 HX.out.2).mono ?_
      rintro e w1 ⟨rfl, hg⟩
      rw [HV.out]
      have c0 := hg.cell q0 (by simp)
      have c1 := hg.cell q1 (by simp)
      have HG := hid_mk (grown_trans H.out.1 hg)
      clear hg q0 q1 q2 q3 H
      cases hrx : rightE x with
      | false =>
        have HF := hid_mk (show goB i t es = false from by rw [HGO.out, hrx]; rfl)
        go_wp2
        go_ret
        exact ⟨ret_bool HF.out.symm, HG.out⟩
      | true =>
        have hsp := rightE_span hrx
        by_cases hii : x.index = i + 1 + k
        · have hii' : (x.index != i + 1 + k) = false := by rw [hii]; simp
          by_cases ht : x.term < tm
          · have HF := hid_mk (show goB i t es = false from by rw [HGO.out, show decide (tm ≤ x.term) = false from decide_eq_false (by omega)]; simp)
            go_wp2
            go_ret
            exact ⟨ret_bool HF.out.symm, HG.out⟩
          · have HT := hid_mk (show goB i t es = goB (i + (k + 1 : Nat)) x.term (es.drop (k + 1)) from by
              rw [HGO.out, hrx, show decide (x.index = i + k + 1) = true from decide_eq_true (by omega), show decide (tm ≤ x.term) = true from decide_eq_true (by omega)]
              simp only [Bool.true_and]
              rw [show x.index = i + (k + 1 : Nat) by omega])
            clear hii
            go_wp2
            go_roundw
            case rel => exact ⟨k + 1, x.term, by omega, by first | rfl | (congr 1; done) | (congr 1; omega), rfl, hid_mk ⟨HG.out, HT.out⟩⟩
            case measure => simp [intOf]; omega
        · have hii' : (x.index != i + 1 + k) = true := by simpa using hii
          have HF := hid_mk (show goB i t es = false from by rw [HGO.out, show decide (x.index = i + k + 1) = false from decide_eq_false (by omega)]; simp)
          go_wp2
          go_ret
          exact ⟨ret_bool HF.out.symm, HG.out⟩
    · have hlt' : ¬ (k : Int) < es.length := by omega
      have HF := hid_mk (show goB i t es = true ∧ w.grownBy wr none from ⟨by rw [H.out.2, List.drop_of_length_le (by omega)]; rfl, H.out.1⟩)
      clear H
      go_wp2
      go_ret
      exact ⟨ret_bool HF.out.1.symm, HF.out.2⟩
set_option maxHeartbeats 4000000 in
theorem rrightV_any (b t : Int) (lv : Value) (es : List Ent) (w : World) (h : EntsR w lv es) (hlen : es.length ≤ 10000000000000) : Calls Try.prog 23 #[viewV b t lv] w fun e w' => e = .returned (.bool (rightV b t es)) ∧ w.grownBy w' none := by
  obtain ⟨a, c, rfl⟩ := h.len
  have HE := hid_mk h
  clear h
  unfold viewV
  have HA := hid_mk (And.intro (RB.new w b t (.slice a es.length c)) (World.grownBy_alloc w (.cells #[.int .i64 b, .int .i64 t, .slice a es.length c] 30) none))
  by_cases hc : 0 ≤ b ∧ b ≤ 549755813888 ∧ 0 ≤ t ∧ t < 1099511627776 ∧ es.length ≤ 4096
  · have HR := hid_mk (rightV_in hc)
    obtain ⟨c1, c2, c3, c4, c5⟩ := hc
    have c6 : (es.length : Int) ≤ 4096 := by omega
    go_enter Try.func23, Try.ntmps23
    go_upto_region 1 with fail
    generalize w.alloc (.cells #[.int .i64 b, .int .i64 t, .slice a es.length c] 30) = w1 at *
    obtain ⟨v0, v1, v2⟩ := HA.out.1.cells
    go_wp2_with fail
    refine (rrow_any b t _ es w1 (HE.out.kept HA.out.2) c5 (by omega)).mono ?_
    rintro e w2 ⟨rfl, hg⟩
    have HG := hid_mk (grown_trans HA.out.2 hg)
    clear hg v0 v1 v2
    obtain ⟨R, hR⟩ : ∃ R, R = goB b t es := ⟨_, rfl⟩
    rw [← hR] at HR ⊢
    clear hR
    go_wp2
    go_ret
    exact ⟨ret_bool HR.out.symm, HG.out⟩
  · have HR := hid_mk (rightV_no hc)
    have HQ := hid_mk HA.out.2
    have hcc : b < 0 ∨ (0 ≤ b ∧ 549755813888 < b) ∨ (0 ≤ b ∧ b ≤ 549755813888 ∧ t < 0) ∨ (0 ≤ b ∧ b ≤ 549755813888 ∧ 0 ≤ t ∧ 1099511627776 ≤ t) ∨ (0 ≤ b ∧ b ≤ 549755813888 ∧ 0 ≤ t ∧ t < 1099511627776 ∧ 4096 < es.length) := by omega
    clear hc
    rcases hcc with c1 | ⟨c1, c2⟩ | ⟨c1, c2, c3⟩ | ⟨c1, c2, c3, c4⟩ | ⟨c1, c2, c3, c4, c5⟩
    all_goals
      try have c6 : ¬ (es.length : Int) ≤ 4096 := by omega
      try have c7 : ¬ b ≤ 549755813888 := by omega
      go_enter Try.func23, Try.ntmps23
      go_upto_region 1 with fail
      generalize w.alloc (.cells #[.int .i64 b, .int .i64 t, .slice a es.length c] 30) = w1 at *
      obtain ⟨v0, v1, v2⟩ := HA.out.1.cells
      go_wp2
      go_ret
      exact ⟨ret_bool HR.out.symm, HQ.out⟩
end Go.Proofs.Ytcijjepleedecaa.W
