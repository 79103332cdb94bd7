/- The document's: row, Right, last, at. -/
import Derived.Test.YtcijjepleedecaaEnQ
namespace Go.Proofs.Ytcijjepleedecaa.W
open Go.RowKit Go.Maps
set_option linter.unusedVariables false
set_option linter.unusedSimpArgs false
set_option maxRecDepth 100000

theorem int_eq {z z' : Int} (h : z = z') : Ending.returned (.int .i64 z) = .returned (.int .i64 z') := by rw [h]
set_option maxHeartbeats 4000000 in
theorem rrow_any (i t : Int) (lv : Value) (es : List Ent) (w : World) (h : EntsR w lv es) (hlen : es.length ≤ 4096) (hi : 0 ≤ i ∧ i ≤ 1000000000000) : Calls Try.prog 44 #[.int .i64 i, .int .i64 t, lv] w fun e w' => e = .returned (.bool (goB i t es)) ∧ w.grownBy w' none := by
  obtain ⟨a, c, rfl⟩ := h.len
  have HE := hid_mk h
  clear h
  go_enter Try.func44, Try.ntmps44
  go_wp2_with fail
  go_loopw [1, 7] (fun tv kv wr => ∃ (k : Nat) (tm : Int), k ≤ es.length ∧ kv = .int .i64 k ∧ tv = .int .i64 tm ∧ Hid (w.grownBy wr none ∧ goB i t es = goB (i + k) tm (es.drop k))) (fun _ kv _ => es.length - (intOf kv).toNat)
  case atStart => exact ⟨0, t, Nat.zero_le _, rfl, rfl, hid_mk ⟨grown_refl _ _, by simp⟩⟩
  case round =>
    obtain ⟨k, tm, hk, rfl, rfl, H⟩ := hrel
    rename World => wr
    by_cases hlt : k < es.length
    · have hlt' : (k : Int) < es.length := by omega
      obtain ⟨x, hx⟩ : ∃ x, es[k]? = some x := ⟨es[k], List.getElem?_eq_getElem hlt⟩
      obtain ⟨eb, off, hae, hcap, hcs⟩ := (HE.out.kept H.out.1).at (by omega)
      obtain ⟨dv, q0, q1, q2, q3, hxb, hxl⟩ := hcs k x hx
      obtain ⟨da, dc, hdv⟩ := hxb.len
      subst hae
      subst hdv
      have HGO := hid_mk (goB_drop H.out.2 hx)
      have HX := hid_mk (And.intro hxb hxl)
      clear hx hxb hxl hcs
      have hV : entV x (.slice da x.data.length dc) = .agg #[.int .i64 x.term, .int .i64 x.index, .int .i64 x.kind, .slice da x.data.length dc] := rfl
      have HV := hid_mk hV
      clear hV
      go_wp2_with fail
      rw [← HV.out]
      refine (rrightEntry_any x _ wr HX.out.1 HX.out.2).mono ?_
      rintro e w1 ⟨rfl, hg⟩
      rw [HV.out]
      have c0 := hg.cell q0 (by simp)
      have c1 := hg.cell q1 (by simp)
      have HG := hid_mk (grown_trans H.out.1 hg)
      clear hg q0 q1 q2 q3 H
      cases hrx : rightE x with
      | false =>
        have HF := hid_mk (show goB i t es = false from by rw [HGO.out, hrx]; rfl)
        go_wp2
        go_ret
        exact ⟨ret_bool HF.out.symm, HG.out⟩
      | true =>
        have hsp := rightE_span hrx
        by_cases hii : x.index = i + 1 + k
        · have hii' : (x.index != i + 1 + k) = false := by rw [hii]; simp
          by_cases ht : x.term < tm
          · have HF := hid_mk (show goB i t es = false from by rw [HGO.out, show decide (tm ≤ x.term) = false from decide_eq_false (by omega)]; simp)
            go_wp2
            go_ret
            exact ⟨ret_bool HF.out.symm, HG.out⟩
          · have HT := hid_mk (show goB i t es = goB (i + (k + 1 : Nat)) x.term (es.drop (k + 1)) from by
              rw [HGO.out, hrx, show decide (x.index = i + k + 1) = true from decide_eq_true (by omega), show decide (tm ≤ x.term) = true from decide_eq_true (by omega)]
              simp only [Bool.true_and]
              rw [show x.index = i + (k + 1 : Nat) by omega])
            clear hii
            go_wp2
            go_roundw
            case rel => exact ⟨k + 1, x.term, by omega, by first | rfl | (congr 1; done) | (congr 1; omega), rfl, hid_mk ⟨HG.out, HT.out⟩⟩
            case measure => simp [intOf]; omega
        · have hii' : (x.index != i + 1 + k) = true := by simpa using hii
          have HF := hid_mk (show goB i t es = false from by rw [HGO.out, show decide (x.index = i + k + 1) = false from decide_eq_false (by omega)]; simp)
          go_wp2
          go_ret
          exact ⟨ret_bool HF.out.symm, HG.out⟩
    · have hlt' : ¬ (k : Int) < es.length := by omega
      have HF := hid_mk (show goB i t es = true ∧ w.grownBy wr none from ⟨by rw [H.out.2, List.drop_of_length_le (by omega)]; rfl, H.out.1⟩)
      clear H
      go_wp2
      go_ret
      exact ⟨ret_bool HF.out.1.symm, HF.out.2⟩
set_option maxHeartbeats 4000000 in
theorem rrightV_any (b t : Int) (lv : Value) (es : List Ent) (w : World) (h : EntsR w lv es) (hlen : es.length ≤ 10000000000000) : Calls Try.prog 23 #[viewV b t lv] w fun e w' => e = .returned (.bool (rightV b t es)) ∧ w.grownBy w' none := by
  obtain ⟨a, c, rfl⟩ := h.len
  have HE := hid_mk h
  clear h
  unfold viewV
  have HA := hid_mk (And.intro (RB.new w b t (.slice a es.length c)) (World.grownBy_alloc w (.cells #[.int .i64 b, .int .i64 t, .slice a es.length c] 30) none))
  by_cases hc : 0 ≤ b ∧ b ≤ 549755813888 ∧ 0 ≤ t ∧ t < 1099511627776 ∧ es.length ≤ 4096
  · have HR := hid_mk (rightV_in hc)
    obtain ⟨c1, c2, c3, c4, c5⟩ := hc
    have c6 : (es.length : Int) ≤ 4096 := by omega
    go_enter Try.func23, Try.ntmps23
    go_upto_region 1 with fail
    generalize w.alloc (.cells #[.int .i64 b, .int .i64 t, .slice a es.length c] 30) = w1 at *
    obtain ⟨v0, v1, v2⟩ := HA.out.1.cells
    go_wp2_with fail
    refine (rrow_any b t _ es w1 (HE.out.kept HA.out.2) c5 (by omega)).mono ?_
    rintro e w2 ⟨rfl, hg⟩
    have HG := hid_mk (grown_trans HA.out.2 hg)
    clear hg v0 v1 v2
    obtain ⟨R, hR⟩ : ∃ R, R = goB b t es := ⟨_, rfl⟩
    rw [← hR] at HR ⊢
    clear hR
    go_wp2
    go_ret
    exact ⟨ret_bool HR.out.symm, HG.out⟩
  · have HR := hid_mk (rightV_no hc)
    have HQ := hid_mk HA.out.2
    have hcc : b < 0 ∨ (0 ≤ b ∧ 549755813888 < b) ∨ (0 ≤ b ∧ b ≤ 549755813888 ∧ t < 0) ∨ (0 ≤ b ∧ b ≤ 549755813888 ∧ 0 ≤ t ∧ 1099511627776 ≤ t) ∨ (0 ≤ b ∧ b ≤ 549755813888 ∧ 0 ≤ t ∧ t < 1099511627776 ∧ 4096 < es.length) := by omega
    clear hc
    rcases hcc with c1 | ⟨c1, c2⟩ | ⟨c1, c2, c3⟩ | ⟨c1, c2, c3, c4⟩ | ⟨c1, c2, c3, c4, c5⟩
    all_goals
      try have c6 : ¬ (es.length : Int) ≤ 4096 := by omega
      try have c7 : ¬ b ≤ 549755813888 := by omega
      go_enter Try.func23, Try.ntmps23
      go_upto_region 1 with fail
      generalize w.alloc (.cells #[.int .i64 b, .int .i64 t, .slice a es.length c] 30) = w1 at *
      obtain ⟨v0, v1, v2⟩ := HA.out.1.cells
      go_wp2
      go_ret
      exact ⟨ret_bool HR.out.symm, HQ.out⟩
end Go.Proofs.Ytcijjepleedecaa.W

/- The document's: Last, TermOf, First, From. -/
namespace Go.Proofs.Ytcijjepleedecaa.W
open Go.RowKit Go.Maps
set_option linter.unusedVariables false
set_option linter.unusedSimpArgs false
set_option maxRecDepth 100000
attribute [local go_sem] Oper.semAt_some

theorem termA_last {b t : Int} {es : List Ent} : termA b t es (b + es.length) = endT t es := by
  unfold termA endT
  cases hl : es.getLast? with
  | none =>
    have h0 : es = [] := List.getLast?_eq_none_iff.1 hl
    subst h0
    simp
  | some x =>
    rw [List.getLast?_eq_getElem?] at hl
    have hlt := (List.getElem?_eq_some_iff.1 hl).1
    rw [if_neg (by omega), show (b + (es.length : Int) - b - 1).toNat = es.length - 1 by omega, hl]

end Go.Proofs.Ytcijjepleedecaa.W

/- From: the program's and the document's. -/
namespace Go.Proofs.Ytcijjepleedecaa.W
open Go.RowKit Go.Maps
set_option linter.unusedVariables false
set_option linter.unusedSimpArgs false
set_option maxRecDepth 100000
attribute [local go_sem] Oper.semAt_some

/-- The entries from an index on, at most so many. -/
def fromL (b t : Int) (es : List Ent) (i most : Int) : List Ent := if rightV b t es = true then (es.drop (plc b es.length i)).take most.toNat else []
theorem fromL_bad {b t : Int} {es : List Ent} {i most : Int} (h : rightV b t es = false) : fromL b t es i most = [] := by unfold fromL; rw [h]; rfl
theorem fromL_ok {b t : Int} {es : List Ent} {i most : Int} (h : rightV b t es = true) : fromL b t es i most = (es.drop (plc b es.length i)).take most.toNat := by unfold fromL; rw [if_pos h]

/-- Entries in a row of one's own, with data of others. -/
structure ER (w W : World) (v : Value) (ps : List (Ent × Value)) : Prop where
  row : W.ownsRow w.heap.size 55 4 v ps.length (ps.flatMap entCells)
  dat : ∀ p ∈ ps, Byt w p.2 p.1.data ∧ p.1.data.length ≤ 140737488355328
  gr : w.grownBy W none
theorem ER.kept {w W W' : World} {v : Value} {ps : List (Ent × Value)} (h : ER w W v ps) (hg : W.grownBy W' none) : ER w W' v ps :=
  ⟨owns_kept h.row hg (fun _ _ _ => by simp), h.dat, grown_trans h.gr hg⟩
theorem ER.nil {w W : World} (h : w.grownBy W none) : ER w W (.slice none 0 0) [] := ⟨World.ownsRow_nil _ _ _ _, by simp, h⟩
theorem ER.reads {w W : World} {v : Value} {es : List (Ent × Value)} (h : ER w W v es) : EntsR W v (es.map (·.1)) := by
  rcases h.row.2 with ⟨rfl, h0⟩ | ⟨g, cap, cur, rfl, hb, hg, h1, h2, h3, h4⟩
  · obtain rfl : es = [] := List.length_eq_zero_iff.1 h0
    exact EntsR.nil _
  · refine .inr ⟨g, 0, cap, by simp, by simpa using h1, fun j x hj => ?_⟩
    rw [List.getElem?_map, Option.map_eq_some_iff] at hj
    obtain ⟨p, hp, rfl⟩ := hj
    have hl : j < es.length := (List.getElem?_eq_some_iff.1 hp).1
    have key : ∀ i, i < 4 → W.cell? ⟨g, 0 + j * 4 + i, none⟩ = (entCells p)[i]? := fun i hi => by
      rw [← entCells_at es j i p hp hi, cell_of_row _ _ _ _ _ _ hg, ← h4, List.getElem?_take, if_pos (by omega), Nat.zero_add]
      simp
    obtain ⟨ho, hd⟩ := h.dat p (List.mem_of_getElem? hp)
    refine ⟨p.2, ?_, ?_, ?_, ?_, ho.kept h.gr, hd⟩
    · have := key 0 (by omega); simpa [entCells] using this
    · have := key 1 (by omega); simpa [entCells] using this
    · have := key 2 (by omega); simpa [entCells] using this
    · have := key 3 (by omega); simpa [entCells] using this
theorem run_append_er {w W : World} {v : Value} {es : List (Ent × Value)} (h : ER w W v es) (x : Ent) (dv : Value) (ho : Byt w dv x.data) (hd : x.data.length ≤ 140737488355328) (hl : (es.length + 1) * 48 ≤ 140737488355328) {o : Oper} {a : Act} (s y : Operand)
    (hop : o.op = .call { callee := .builtin .append, args := #[s, y], argTypes := #[24, 24] }) (hs : a.eval s = v) (hy : a.eval y = .slice (some ⟨W.heap.size, 0, none⟩) 1 1) :
    ∃ a' c' W', (execOp a.eval o).run Try.prog (W.alloc (.cells #[.int .i64 x.term, .int .i64 x.index, .int .i64 x.kind, dv] 55)) = .ok (.value (.slice a' (es.length + 1) c')) W' ∧ ER w W' (.slice a' (es.length + 1) c') (es ++ [(x, dv)]) := by
  obtain ⟨i0, hi, hz0, hz1, hz2⟩ := info_parts info47
  have hg := World.grownBy_alloc W (.cells #[.int .i64 x.term, .int .i64 x.index, .int .i64 x.kind, dv] 55) none
  have hE := h.kept hg
  have hone : ∀ u ∈ entCells (x, dv), u.oneCell' = true := fun u hu => by
    obtain ⟨_, _, rfl⟩ := ho.len
    simp [entCells] at hu
    rcases hu with rfl | rfl | rfl | rfl <;> rfl
  obtain ⟨v', w', hrun, r1, r2, _, _⟩ := run_append_own_at (P := Try.prog) (W.alloc (.cells #[.int .i64 x.term, .int .i64 x.index, .int .i64 x.kind, dv] 55)) w.heap.size 24 o.type 55 i0 (.agg #[.int .i64 0, .int .i64 0, .int .i64 0, .slice none 0 0]) 4 48 Try.underlying24 hi hz0 hz1 hz2 rfl (by decide) v es.length (es.flatMap entCells) hE.row ⟨W.heap.size, 0, none⟩ 1 1 (entCells (x, dv)) rfl (cell_four_new _ _ _ _ _ _) hone (by unfold maxLen; omega) hl hE.gr.size
  obtain ⟨a', c', rfl⟩ := row_shape r1
  refine ⟨a', c', w', by simp [execOp, hop, resolve, invoke, builtin, hs, hy, hrun, Result.andThen], ⟨?_, fun p hp => ?_, grown_row hE.gr hE.row r2⟩⟩
  · rw [List.length_append, List.flatMap_append]; simpa using r1
  · rcases List.mem_append.1 hp with hp | hp
    · exact h.dat p hp
    · obtain rfl : p = (x, dv) := by simpa using hp
      exact ⟨ho, hd⟩
theorem wpListIn_append_er {F : Fence} {n : Nat} {w W : World} {v : Value} {es : List (Ent × Value)} (h : ER w W v es) (x : Ent) (dv : Value) (ho : Byt w dv x.data) (hd : x.data.length ≤ 140737488355328) (hl : (es.length + 1) * 48 ≤ 140737488355328) {ops : Array Oper} {rest : List Oper} {o : Oper} {a : Act} {Q : Exit → Act → World → Prop}
    (hgd : o.guard = none) (s y : Operand) (hop : o.op = .call { callee := .builtin .append, args := #[s, y], argTypes := #[24, 24] }) (hs : a.eval s = v) (hy : a.eval y = .slice (some ⟨W.heap.size, 0, none⟩) 1 1)
    (hK : ∀ a' c' W', ER w W' (.slice a' (es.length + 1) c') (es ++ [(x, dv)]) → wpListIn F n Try.prog ops Q rest (a.put o.dst (.slice a' (es.length + 1) c')) W') :
    wpListIn F n Try.prog ops Q (o :: rest) a (W.alloc (.cells #[.int .i64 x.term, .int .i64 x.index, .int .i64 x.kind, dv] 55)) := by
  obtain ⟨a', c', W', hrun, h1⟩ := run_append_er h x dv ho hd hl (o := o) (a := a) s y hop hs hy
  refine wpListIn_plain hgd fun K hK' => ?_
  unfold Oper.wpIn
  refine ⟨?_, ?_⟩
  · simp [Oper.about, hop, resolve, Target.leads, Sem.run_pure]
  · rw [Oper.semAt_plain F _ _ (by rw [hop]; intro c hc'; cases hc'), hrun]
    exact hK' _ _ (hK a' c' W' h1)

end Go.Proofs.Ytcijjepleedecaa.W

/- The law's Entries, Same, num. -/
namespace Go.Proofs.Ytcijjepleedecaa.W
open Go.RowKit Go.Maps
set_option linter.unusedVariables false
set_option linter.unusedSimpArgs false
set_option maxRecDepth 100000
attribute [local go_sem] Oper.semAt_some

set_option maxHeartbeats 4000000 in
theorem entriesEq_any (v v' : Value) (l : List Ent) (w : World) (h : EntsR w v l) (h' : EntsR w v' l) (hlen : l.length ≤ 10000000000000) : Calls Try.prog 33 #[v, v'] w fun e w' => e = .returned (.bool true) ∧ w.grownBy w' none := by
  obtain ⟨a, c, rfl⟩ := h.len
  obtain ⟨a', c', rfl⟩ := h'.len
  have HE := hid_mk (And.intro h h')
  clear h h'
  go_enter Try.func33, Try.ntmps33
  go_wp2_with fail
  go_loopw [5] (fun kv wr => ∃ (k : Nat), k ≤ l.length ∧ kv = .int .i64 k ∧ Hid (w.grownBy wr none)) (fun kv _ => l.length - (intOf kv).toNat)
  case atStart => exact ⟨0, Nat.zero_le _, rfl, hid_mk (grown_refl _ _)⟩
  case round =>
    obtain ⟨k, hk, rfl, H⟩ := hrel
    rename World => wr
    by_cases hlt : k < l.length
    · have hlt' : (k : Int) < l.length := by omega
      obtain ⟨x, hx⟩ : ∃ x, l[k]? = some x := ⟨l[k], List.getElem?_eq_getElem hlt⟩
      obtain ⟨eb, off, hae, hcap, hcs⟩ := HE.out.1.at (by omega)
      obtain ⟨dv, q0, q1, q2, q3, hxb, hxl⟩ := hcs k x hx
      obtain ⟨eb2, off2, hae2, hcap2, hcs2⟩ := HE.out.2.at (by omega)
      obtain ⟨dv2, r0, r1, r2, r3, hxb2, hxl2⟩ := hcs2 k x hx
      obtain ⟨da, dc, hdv⟩ := hxb.len
      obtain ⟨da2, dc2, hdv2⟩ := hxb2.len
      subst hae
      subst hae2
      subst hdv
      subst hdv2
      have HX := hid_mk (And.intro hxb hxb2)
      have HCL : ∀ W, wr.grownBy W none → W.cell? ⟨eb, off + k * 4, none⟩ = some (.int .i64 x.term) ∧ W.cell? ⟨eb, off + k * 4 + 1, none⟩ = some (.int .i64 x.index) ∧ W.cell? ⟨eb, off + k * 4 + 2, none⟩ = some (.int .i64 x.kind) ∧ W.cell? ⟨eb, off + k * 4 + 3, none⟩ = some (.slice da x.data.length dc) ∧ W.cell? ⟨eb2, off2 + k * 4, none⟩ = some (.int .i64 x.term) ∧ W.cell? ⟨eb2, off2 + k * 4 + 1, none⟩ = some (.int .i64 x.index) ∧ W.cell? ⟨eb2, off2 + k * 4 + 2, none⟩ = some (.int .i64 x.kind) ∧ W.cell? ⟨eb2, off2 + k * 4 + 3, none⟩ = some (.slice da2 x.data.length dc2) := fun W hW => by
        have g := grown_trans H.out hW
        exact ⟨g.cell q0 (by simp), g.cell q1 (by simp), g.cell q2 (by simp), g.cell q3 (by simp), g.cell r0 (by simp), g.cell r1 (by simp), g.cell r2 (by simp), g.cell r3 (by simp)⟩
      have hV : entV x (.slice da x.data.length dc) = .agg #[.int .i64 x.term, .int .i64 x.index, .int .i64 x.kind, .slice da x.data.length dc] := rfl
      have HV := hid_mk hV
      have hV2 : entV x (.slice da2 x.data.length dc2) = .agg #[.int .i64 x.term, .int .i64 x.index, .int .i64 x.kind, .slice da2 x.data.length dc2] := rfl
      have HV2 := hid_mk hV2
      clear hV hV2 hx hxb hxl hcs hxb2 hxl2 hcs2 q0 q1 q2 q3 r0 r1 r2 r3
      go_upto_region 6 with fail
      refine wp_region_mix [(0, true), (1, true), (2, true), (3, true), (4, true), (5, true), (6, true), (7, true), (8, false), (9, true)] (at0 wr (fun W => wr.grownBy W none)) (by kernel_rfl) (by kernel_rfl) rfl (by kernel_rfl) (shut_at0 (fun m => grown_drewN _ m none)) ⟨1, rfl⟩ ?_
      repeat (refine mix_rd1 rfl rfl (fun K hK => ?_); apply Exists.intro; refine ⟨fun W hW => ?_, ?_⟩; (obtain ⟨d0, d1, d2, d3, d4, d5, d6, d7⟩ := HCL W hW; go_simp; rfl); (go_simp; refine hK _ _ ?_; clear hK K))
      refine mix_call rfl rfl 46 #[entV x (.slice da x.data.length dc), entV x (.slice da2 x.data.length dc2)] (fun W => by rw [HV.out, HV2.out]; go_simp) ?_
      rintro W ⟨mA, rfl⟩
      refine (same_any x _ _ (wr.drewN mA) (HX.out.1.kept (grown_trans H.out (grown_drewN _ mA none))) (HX.out.2.kept (grown_trans H.out (grown_drewN _ mA none)))).mono ?_
      rintro e w3 ⟨rfl, hg⟩
      have G3 := hid_mk (show wr.grownBy w3 none from grown_trans (grown_drewN _ mA none) hg)
      clear hg
      refine ⟨_, rfl, at0 w3 (fun W => wr.grownBy W none), ⟨0, rfl⟩, shut_at0 (all_kept G3.out), fun _ h => h, ?_⟩
      repeat (refine mix_rd1 rfl rfl (fun K hK => ?_); apply Exists.intro; refine ⟨fun W hW => ?_, ?_⟩; (go_simp; rfl); (go_simp; refine hK _ _ ?_; clear hK K))
      refine mix_nil ?_
      rintro W ⟨mB, rfl⟩
      have HG := hid_mk (show w.grownBy (w3.drewN mB) none from grown_trans H.out (grown_trans G3.out (grown_drewN _ mB none)))
      generalize w3.drewN mB = w4 at *
      go_wp2_with fail
      go_roundw
      case rel => exact ⟨k + 1, by omega, by first | rfl | (congr 1; done) | (congr 1; omega), hid_mk HG.out⟩
      case measure => simp [intOf]; omega
    · have hlt' : ¬ (k : Int) < l.length := by omega
      have HF := hid_mk H.out
      clear H
      go_wp2
      go_ret
      exact ⟨rfl, HF.out⟩
set_option maxHeartbeats 4000000 in
theorem sameV_any (b t : Int) (v v' : Value) (l : List Ent) (w : World) (h : EntsR w v l) (h' : EntsR w v' l) (hlen : l.length ≤ 10000000000000) : Calls Try.prog 17 #[viewV b t v, viewV b t v'] w fun e w' => e = .returned (.bool true) ∧ w.grownBy w' none := by
  obtain ⟨a, c, rfl⟩ := h.len
  obtain ⟨a', c', rfl⟩ := h'.len
  have HE := hid_mk (And.intro h h')
  clear h h'
  unfold viewV
  have HA := hid_mk (show VB ((w.alloc (.cells #[.int .i64 b, .int .i64 t, .slice a l.length c] 26)).alloc (.cells #[.int .i64 b, .int .i64 t, .slice a' l.length c'] 30)) w.heap.size b t (.slice a l.length c) ∧ RB ((w.alloc (.cells #[.int .i64 b, .int .i64 t, .slice a l.length c] 26)).alloc (.cells #[.int .i64 b, .int .i64 t, .slice a' l.length c'] 30)) (w.heap.size + 1) b t (.slice a' l.length c') ∧ w.grownBy ((w.alloc (.cells #[.int .i64 b, .int .i64 t, .slice a l.length c] 26)).alloc (.cells #[.int .i64 b, .int .i64 t, .slice a' l.length c'] 30)) none from by
    have h1 := VB.new w b t (.slice a l.length c)
    have h2 := RB.new (w.alloc (.cells #[.int .i64 b, .int .i64 t, .slice a l.length c] 26)) b t (.slice a' l.length c')
    rw [World.size_alloc] at h2
    exact ⟨h1.kept (World.grownBy_alloc _ _ none) (by simp), h2, grown_trans (World.grownBy_alloc _ _ none) (World.grownBy_alloc _ _ none)⟩)
  go_enter Try.func17, Try.ntmps17
  go_upto_region 1 with fail
  generalize (w.alloc (.cells #[.int .i64 b, .int .i64 t, .slice a l.length c] 26)).alloc (.cells #[.int .i64 b, .int .i64 t, .slice a' l.length c'] 30) = w1 at *
  obtain ⟨v0, v1, v2⟩ := HA.out.1.cells
  obtain ⟨u0, u1, u2⟩ := HA.out.2.1.cells
  have hb : (b == b) = true := beq_self_eq_true b
  have ht : (t == t) = true := beq_self_eq_true t
  go_wp2_with fail
  refine (entriesEq_any _ _ l w1 (HE.out.1.kept HA.out.2.2) (HE.out.2.kept HA.out.2.2) hlen).mono ?_
  rintro e w2 ⟨rfl, hg⟩
  have HG := hid_mk (grown_trans HA.out.2.2 hg)
  clear hg
  go_wp2
  go_ret
  exact ⟨rfl, HG.out⟩
end Go.Proofs.Ytcijjepleedecaa.W
