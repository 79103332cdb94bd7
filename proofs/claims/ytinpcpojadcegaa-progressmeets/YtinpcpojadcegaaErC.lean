/- From: the program's and the document's. -/
import Derived.Test.YtinpcpojadcegaaErB
namespace Go.Proofs.Ytinpcpojadcegaa.W
open Go.RowKit Go.Maps
set_option linter.unusedVariables false
set_option linter.unusedSimpArgs false
set_option maxRecDepth 100000
attribute [local go_sem] Oper.semAt_some

/-- The entries from an index on, at most so many. -/
def fromL (b t : Int) (es : List Ent) (i most : Int) : List Ent := if rightV b t es = true then (es.drop (plc b es.length i)).take most.toNat else []
theorem fromL_bad {b t : Int} {es : List Ent} {i most : Int} (h : rightV b t es = false) : fromL b t es i most = [] := by unfold fromL; rw [h]; rfl
theorem fromL_ok {b t : Int} {es : List Ent} {i most : Int} (h : rightV b t es = true) : fromL b t es i most = (es.drop (plc b es.length i)).take most.toNat := by unfold fromL; rw [if_pos h]

set_option maxHeartbeats 4000000 in
theorem From_any (b t : Int) (lv : Value) (es : List Ent) (i most : Int) (w : World) (h : EntsR w lv es) (hlen : es.length ≤ 10000000000000) (hbb : I64 b) (hi : I64 i) (hm : I64 most) : Calls Try.prog 26 #[viewV b t lv, .int .i64 i, .int .i64 most] w fun e w' => ∃ v ps, e = .returned v ∧ EO w w' v ps ∧ ps.map (·.1) = fromL b t es i most := by
  obtain ⟨a, c, rfl⟩ := h.len
  have HE := hid_mk (And.intro h (And.intro hbb (And.intro hi hm)))
  clear h hbb hi hm
  have hV : viewV b t (.slice a es.length c) = .agg #[.int .i64 b, .int .i64 t, .slice a es.length c] := rfl
  have HV := hid_mk hV
  rw [hV]
  clear hV
  have HA := hid_mk (And.intro (VB.new w b t (.slice a es.length c)) (World.grownBy_alloc w (.cells #[.int .i64 b, .int .i64 t, .slice a es.length c] 25) none))
  cases hr : rightV b t es with
  | false =>
    have HR := hid_mk (And.intro hr (fromL_bad (i := i) (most := most) hr))
    clear hr
    go_enter Try.func26, Try.ntmps26
    go_upto_region 1 with fail
    generalize w.alloc (.cells #[.int .i64 b, .int .i64 t, .slice a es.length c] 25) = w1 at *
    obtain ⟨v0, v1, v2⟩ := HA.out.1.cells
    go_wp2_with fail
    rw [← HV.out]
    refine (rightV_any b t _ es w1 (HE.out.1.kept HA.out.2) hlen HE.out.2.1).mono ?_
    rintro e w2 ⟨rfl, hg⟩
    rw [HR.out.1, HV.out]
    have HG := hid_mk (grown_trans HA.out.2 hg)
    clear hg v0 v1 v2
    go_wp2_with fail
    refine bodyPost_ret (results_tmp rfl _ _ _) rfl ?_
    exact ⟨_, [], rfl, EO.nil HG.out, by rw [HR.out.2]; rfl⟩
  | true =>
    have HR := hid_mk (And.intro hr (fromL_ok (i := i) (most := most) hr))
    obtain ⟨hb0, hb1, _, _, hl1, hgo⟩ := rightV_spec hr
    have HGO := hid_mk hgo
    clear hr hgo
    go_enter Try.func26, Try.ntmps26
    go_upto_region 1 with fail
    generalize w.alloc (.cells #[.int .i64 b, .int .i64 t, .slice a es.length c] 25) = w1 at *
    obtain ⟨v0, v1, v2⟩ := HA.out.1.cells
    go_wp2_with fail
    rw [← HV.out]
    refine (rightV_any b t _ es w1 (HE.out.1.kept HA.out.2) hlen HE.out.2.1).mono ?_
    rintro e w2 ⟨rfl, hg⟩
    rw [HR.out.1, HV.out]
    have HG := hid_mk (And.intro (grown_trans HA.out.2 hg) (HA.out.1.kept hg (by simp)))
    clear hg v0 v1 v2
    obtain ⟨v0, v1, v2⟩ := HG.out.2.cells
    go_wp2_with fail
    rw [← HV.out]
    refine (from_any b t _ es i w w2 HE.out.1 HG.out.1 (by omega) (by omega) HE.out.2.2.1 HGO.out).mono ?_
    rintro e w3 ⟨f, D, rfl, hsq, hg3⟩
    obtain ⟨gf, lb, hf, _⟩ := hsq.seq
    subst hf
    rw [HV.out]
    clear v0 v1 v2
    go_wp2_with fail
    refine (few_any most HE.out.2.2.2 w3 hsq hg3.size (Nat.le_refl _)).mono ?_
    rintro e w4 ⟨f', D', rfl, hsq4, hg4⟩
    obtain ⟨gf', lb', hf', _⟩ := hsq4.seq
    subst hf'
    have H8 := hid_mk (show SeqAt (w4.alloc (.cells #[.func (.func gf') #[] lb'] 81)) (.func (.func gf') #[] lb') D' ((es.drop (plc b es.length i)).take most.toNat) w w2.heap.size w4.heap.size ∧ w.grownBy (w4.alloc (.cells #[.func (.func gf') #[] lb'] 81)) none ∧ (w4.alloc (.cells #[.func (.func gf') #[] lb'] 81)).cell? ⟨w4.heap.size, 0, none⟩ = some (.func (.func gf') #[] lb') ∧ w4.heap.size < (w4.alloc (.cells #[.func (.func gf') #[] lb'] 81)).heap.size from by
      have ga := World.grownBy_alloc w4 (.cells #[.func (.func gf') #[] lb'] 81) none
      have hb := heap_alloc_new w4 (.cells #[.func (.func gf') #[] lb'] 81)
      exact ⟨hsq4.later ga, grown_trans (grown_trans HG.out.1 (grown_trans hg3 hg4)) ga, (show Blk _ _ #[.func (.func gf') #[] lb'] 81 from hb).cell 0, by simp⟩)
    clear hsq hg3 hsq4 hg4
    go_wp2_with fail
    generalize w4.alloc (.cells #[.func (.func gf') #[] lb'] 81) = w5 at *
    refine (copies1_any w5 H8.out.1 H8.out.2.1.size (by have := H8.out.2.2.2; omega) H8.out.2.2.1 (by simp; omega)).mono ?_
    rintro e w6 ⟨av, ps, rfl, heo, hmap⟩
    obtain ⟨va, vc, hv⟩ := row_shape heo.row
    subst hv
    have HF := hid_mk (show EO w w6 (.slice va ps.length vc) ps ∧ ps.map (·.1) = (es.drop (plc b es.length i)).take most.toNat from ⟨heo.base H8.out.2.1, hmap⟩)
    clear heo hmap H8
    go_wp2_with fail
    refine bodyPost_ret (results_tmp rfl _ _ _) rfl ?_
    exact ⟨_, ps, rfl, HF.out.1, by rw [HR.out.2]; exact HF.out.2⟩
/-- Entries in a row of one's own, with data of others. -/
structure ER (w W : World) (v : Value) (ps : List (Ent × Value)) : Prop where
  row : W.ownsRow w.heap.size 54 4 v ps.length (ps.flatMap entCells)
  dat : ∀ p ∈ ps, Byt w p.2 p.1.data ∧ p.1.data.length ≤ 140737488355328
  gr : w.grownBy W none
theorem ER.kept {w W W' : World} {v : Value} {ps : List (Ent × Value)} (h : ER w W v ps) (hg : W.grownBy W' none) : ER w W' v ps :=
  ⟨owns_kept h.row hg (fun _ _ _ => by simp), h.dat, grown_trans h.gr hg⟩
theorem ER.nil {w W : World} (h : w.grownBy W none) : ER w W (.slice none 0 0) [] := ⟨World.ownsRow_nil _ _ _ _, by simp, h⟩
theorem ER.reads {w W : World} {v : Value} {es : List (Ent × Value)} (h : ER w W v es) : EntsR W v (es.map (·.1)) := by
  rcases h.row.2 with ⟨rfl, h0⟩ | ⟨g, cap, cur, rfl, hb, hg, h1, h2, h3, h4⟩
  · obtain rfl : es = [] := List.length_eq_zero_iff.1 h0
    exact EntsR.nil _
  · refine .inr ⟨g, 0, cap, by simp, by simpa using h1, fun j x hj => ?_⟩
    rw [List.getElem?_map, Option.map_eq_some_iff] at hj
    obtain ⟨p, hp, rfl⟩ := hj
    have hl : j < es.length := (List.getElem?_eq_some_iff.1 hp).1
    have key : ∀ i, i < 4 → W.cell? ⟨g, 0 + j * 4 + i, none⟩ = (entCells p)[i]? := fun i hi => by
      rw [← entCells_at es j i p hp hi, cell_of_row _ _ _ _ _ _ hg, ← h4, List.getElem?_take, if_pos (by omega), Nat.zero_add]
      simp
    obtain ⟨ho, hd⟩ := h.dat p (List.mem_of_getElem? hp)
    refine ⟨p.2, ?_, ?_, ?_, ?_, ho.kept h.gr, hd⟩
    · have := key 0 (by omega); simpa [entCells] using this
    · have := key 1 (by omega); simpa [entCells] using this
    · have := key 2 (by omega); simpa [entCells] using this
    · have := key 3 (by omega); simpa [entCells] using this
theorem run_append_er {w W : World} {v : Value} {es : List (Ent × Value)} (h : ER w W v es) (x : Ent) (dv : Value) (ho : Byt w dv x.data) (hd : x.data.length ≤ 140737488355328) (hl : (es.length + 1) * 48 ≤ 140737488355328) {o : Oper} {a : Act} (s y : Operand)
    (hop : o.op = .call { callee := .builtin .append, args := #[s, y], argTypes := #[22, 22] }) (hs : a.eval s = v) (hy : a.eval y = .slice (some ⟨W.heap.size, 0, none⟩) 1 1) :
    ∃ a' c' W', (execOp a.eval o).run Try.prog (W.alloc (.cells #[.int .i64 x.term, .int .i64 x.index, .int .i64 x.kind, dv] 54)) = .ok (.value (.slice a' (es.length + 1) c')) W' ∧ ER w W' (.slice a' (es.length + 1) c') (es ++ [(x, dv)]) := by
  obtain ⟨i0, hi, hz0, hz1, hz2⟩ := info_parts info47
  have hg := World.grownBy_alloc W (.cells #[.int .i64 x.term, .int .i64 x.index, .int .i64 x.kind, dv] 54) none
  have hE := h.kept hg
  have hone : ∀ u ∈ entCells (x, dv), u.oneCell' = true := fun u hu => by
    obtain ⟨_, _, rfl⟩ := ho.len
    simp [entCells] at hu
    rcases hu with rfl | rfl | rfl | rfl <;> rfl
  obtain ⟨v', w', hrun, r1, r2, _, _⟩ := run_append_own_at (P := Try.prog) (W.alloc (.cells #[.int .i64 x.term, .int .i64 x.index, .int .i64 x.kind, dv] 54)) w.heap.size 22 o.type 54 i0 (.agg #[.int .i64 0, .int .i64 0, .int .i64 0, .slice none 0 0]) 4 48 Try.underlying22 hi hz0 hz1 hz2 rfl (by decide) v es.length (es.flatMap entCells) hE.row ⟨W.heap.size, 0, none⟩ 1 1 (entCells (x, dv)) rfl (cell_four_new _ _ _ _ _ _) hone (by unfold maxLen; omega) hl hE.gr.size
  obtain ⟨a', c', rfl⟩ := row_shape r1
  refine ⟨a', c', w', by simp [execOp, hop, resolve, invoke, builtin, hs, hy, hrun, Result.andThen], ⟨?_, fun p hp => ?_, grown_row hE.gr hE.row r2⟩⟩
  · rw [List.length_append, List.flatMap_append]; simpa using r1
  · rcases List.mem_append.1 hp with hp | hp
    · exact h.dat p hp
    · obtain rfl : p = (x, dv) := by simpa using hp
      exact ⟨ho, hd⟩
theorem wpListIn_append_er {F : Fence} {n : Nat} {w W : World} {v : Value} {es : List (Ent × Value)} (h : ER w W v es) (x : Ent) (dv : Value) (ho : Byt w dv x.data) (hd : x.data.length ≤ 140737488355328) (hl : (es.length + 1) * 48 ≤ 140737488355328) {ops : Array Oper} {rest : List Oper} {o : Oper} {a : Act} {Q : Exit → Act → World → Prop}
    (hgd : o.guard = none) (s y : Operand) (hop : o.op = .call { callee := .builtin .append, args := #[s, y], argTypes := #[22, 22] }) (hs : a.eval s = v) (hy : a.eval y = .slice (some ⟨W.heap.size, 0, none⟩) 1 1)
    (hK : ∀ a' c' W', ER w W' (.slice a' (es.length + 1) c') (es ++ [(x, dv)]) → wpListIn F n Try.prog ops Q rest (a.put o.dst (.slice a' (es.length + 1) c')) W') :
    wpListIn F n Try.prog ops Q (o :: rest) a (W.alloc (.cells #[.int .i64 x.term, .int .i64 x.index, .int .i64 x.kind, dv] 54)) := by
  obtain ⟨a', c', W', hrun, h1⟩ := run_append_er h x dv ho hd hl (o := o) (a := a) s y hop hs hy
  refine wpListIn_plain hgd fun K hK' => ?_
  unfold Oper.wpIn
  refine ⟨?_, ?_⟩
  · simp [Oper.about, hop, resolve, Target.leads, Sem.run_pure]
  · rw [Oper.semAt_plain F _ _ (by rw [hop]; intro c hc'; cases hc'), hrun]
    exact hK' _ _ (hK a' c' W' h1)

set_option maxHeartbeats 4000000 in
theorem rFrom_any (b t : Int) (lv : Value) (es : List Ent) (i most : Int) (w : World) (h : EntsR w lv es) (hlen : es.length * 48 ≤ 140737488355328) (hi : I64 i) (hm : I64 most) : Calls Try.prog 29 #[viewV b t lv, .int .i64 i, .int .i64 most] w fun e w' => ∃ v, e = .returned v ∧ EntsR w' v (fromL b t es i most) ∧ w.grownBy w' none := by
  obtain ⟨a, c, rfl⟩ := h.len
  have HE := hid_mk h
  clear h
  have hV : viewV b t (.slice a es.length c) = .agg #[.int .i64 b, .int .i64 t, .slice a es.length c] := rfl
  have HV := hid_mk hV
  rw [hV]
  clear hV
  have HA := hid_mk (And.intro (RB.new w b t (.slice a es.length c)) (World.grownBy_alloc w (.cells #[.int .i64 b, .int .i64 t, .slice a es.length c] 24) none))
  unfold I64 at hi hm
  obtain ⟨P, hP⟩ : ∃ P, P = plc b es.length i := ⟨_, rfl⟩
  have HP := hid_mk hP
  have hPl : P ≤ es.length := by rw [hP]; exact plc_le _ _ _
  clear hP
  refine (callsIn_wide (n := 11)).1 ?_
  refine callsIn_of_wp Try.func29 rfl trivial ?_ rfl
  simp only [Try.ntmps29, List.size_toArray, List.length_cons, List.length_nil, Nat.reduceAdd, Nat.reduceSub, Array.replicate_succ, Array.replicate_zero, List.push_toArray, List.append_toArray, List.nil_append, List.cons_append]
  gi_upto_region 1 with fail
  generalize w.alloc (.cells #[.int .i64 b, .int .i64 t, .slice a es.length c] 24) = w1 at *
  gi_wp2_with fail
  gi_loopw [7, 8] (fun ov kv wr => ∃ (k : Nat) (va : Option Addr) (n : Nat) (vc : Nat) (ps : List (Ent × Value)), k ≤ es.length ∧ ov = .slice va n vc ∧ kv = .int .i64 k ∧ n = k - P ∧ Hid (ER w1 wr (.slice va n vc) ps ∧ ps.length = n ∧ ps.map (·.1) = (es.drop P).take (k - P) ∧ ((n : Int) ≤ most ∨ n = 0) ∧ (0 < k → rightV b t es = true))) (fun _ kv _ => es.length - (intOf kv).toNat)
  case atStart => exact ⟨0, none, 0, 0, [], Nat.zero_le _, rfl, rfl, by omega, hid_mk ⟨ER.nil (grown_refl _ _), rfl, by simp, .inr rfl, fun h => by omega⟩⟩
  case round =>
    obtain ⟨k, va, n, vc, ps, hk, rfl, rfl, hn, H⟩ := hrel
    rename World => wr
    have HN := hid_mk hn
    have hnl : n ≤ es.length := by omega
    clear hn
    obtain ⟨v0, v1, v2⟩ := (HA.out.1.kept H.out.1.gr (by simp)).cells
    by_cases hlt : k < es.length
    · have hlt' : (k : Int) < es.length := by omega
      gi_wp2_with fail
      rw [← HV.out]
      refine ⟨trivial, (callsIn_wide.2 (rrightV_any b t _ es wr (HE.out.kept (grown_trans HA.out.2 H.out.1.gr)) (by omega))).mono ?_⟩
      rintro e w2 ⟨rfl, hg⟩
      rw [HV.out]
      have H2 := hid_mk (show ER w1 w2 (.slice va n vc) ps ∧ ps.length = n ∧ ps.map (·.1) = (es.drop P).take (k - P) ∧ ((n : Int) ≤ most ∨ n = 0) ∧ (0 < k → rightV b t es = true) from ⟨H.out.1.kept hg, H.out.2.1, H.out.2.2⟩)
      clear hg v0 v1 v2 H
      cases hr : rightV b t es with
      | false =>
        have HF := hid_mk (show ER w1 w2 (.slice va n vc) ps ∧ ps.map (·.1) = fromL b t es i most from ⟨H2.out.1, by
          have hk0 : k = 0 := by
            rcases Nat.eq_zero_or_pos k with h | h
            · exact h
            · rw [H2.out.2.2.2.2 h] at hr; cases hr
          rw [H2.out.2.2.1, fromL_bad hr, hk0]
          simp⟩)
        gi_wp2_with fail
        refine bodyPost_ret (results_tmp rfl _ _ _) rfl ?_
        exact ⟨_, rfl, by rw [← HF.out.2]; exact HF.out.1.reads, grown_trans HA.out.2 HF.out.1.gr⟩
      | true =>
        have HRR := hid_mk hr
        obtain ⟨hb0, hb1, _, _, hl1, hgo⟩ := rightV_spec hr
        have HGO := hid_mk hgo
        clear hr hgo
        by_cases hmo : (n : Int) < most
        · obtain ⟨v0, v1, v2⟩ := (HA.out.1.kept H2.out.1.gr (by simp)).cells
          obtain ⟨x, hx⟩ : ∃ x, es[k]? = some x := ⟨es[k], List.getElem?_eq_getElem hlt⟩
          obtain ⟨eb, off, hae, hcap, hcs⟩ := (HE.out.kept (grown_trans HA.out.2 H2.out.1.gr)).at (by omega)
          obtain ⟨dv, q0, q1, q2, q3, hxb, hxl⟩ := hcs k x hx
          obtain ⟨eb2, off2, hae2, _, hcs2⟩ := HE.out.at (by omega)
          have HXI := hid_mk (goB_at es HGO.out k x hx).1
          subst hae
          cases hae2
          obtain ⟨dv2, _, _, _, r3, hxb2, _⟩ := hcs2 k x hx
          have hdd : dv2 = dv := by
            have := (grown_trans HA.out.2 H2.out.1.gr).cell r3 (by simp)
            rw [q3] at this
            cases this
            rfl
          subst hdd
          obtain ⟨da, dc, hdv⟩ := hxb.len
          subst hdv
          have HX := hid_mk (And.intro hx (And.intro hxb2 hxl))
          clear hcs hcs2 hxb hxl hxb2 r3
          by_cases hge : i ≤ x.index
          · have hPk : P ≤ k := by
              have := HP.out
              have hxi := HXI.out
              unfold plc at this
              omega
            have HM := hid_mk (show (ps ++ [(x, Value.slice da x.data.length dc)]).map (·.1) = (es.drop P).take (k + 1 - P) from by
              rw [List.map_append, H2.out.2.2.1, show k + 1 - P = (k - P) + 1 by omega, List.take_add_one, List.getElem?_drop, show P + (k - P) = k by omega, hx]
              rfl)
            have hpl := H2.out.2.1
            have HPL := hid_mk (show (ps.length + 1) * 48 ≤ 140737488355328 by have := HN.out; omega)
            have HPN := hid_mk hpl
            clear hpl
            clear hx
            gi_wp2_with (gi_at_builtin; refine wpListIn_append_er (v := .slice va n vc) (es := ps) H2.out.1 x (.slice da x.data.length dc) (HX.out.2.1.kept HA.out.2) HX.out.2.2 HPL.out rfl (.tmp 34) (.tmp 40) rfl rfl rfl ?_; intro a4 c4 Y4 heo4; rw [HPN.out] at heo4; rw [HPN.out]; have H4 := hid_mk heo4; clear heo4)
            go_roundw
            case rel => exact ⟨k + 1, a4, n + 1, c4, ps ++ [(x, .slice da x.data.length dc)], by omega, rfl, by first | rfl | (congr 1; done) | (congr 1; omega), by have := HN.out; omega, hid_mk ⟨H4.out, by simp [HPN.out], HM.out, .inl (by omega), fun _ => HRR.out⟩⟩
            case measure => simp [intOf]; omega
          · have hPk : ¬ P ≤ k := by
              have := HP.out
              have hxi := HXI.out
              unfold plc at this
              omega
            have HM := hid_mk (show ps.map (·.1) = (es.drop P).take (k + 1 - P) from by rw [H2.out.2.2.1, show k + 1 - P = k - P by omega])
            clear hx
            gi_wp2_with fail
            go_roundw
            case rel => exact ⟨k + 1, va, n, vc, ps, by omega, rfl, by first | rfl | (congr 1; done) | (congr 1; omega), by have := HN.out; omega, hid_mk ⟨H2.out.1, H2.out.2.1, HM.out, H2.out.2.2.2.1, fun _ => HRR.out⟩⟩
            case measure => simp [intOf]; omega
        · have HF := hid_mk (show ER w1 w2 (.slice va n vc) ps ∧ ps.map (·.1) = fromL b t es i most from ⟨H2.out.1, by
            rw [H2.out.2.2.1, fromL_ok HRR.out, ← HP.out]
            congr 1
            have := HN.out
            rcases H2.out.2.2.2.1 with h | h <;> omega⟩)
          gi_wp2_with fail
          refine bodyPost_ret (results_tmp rfl _ _ _) rfl ?_
          exact ⟨_, rfl, by rw [← HF.out.2]; exact HF.out.1.reads, grown_trans HA.out.2 HF.out.1.gr⟩
    · have hlt' : ¬ (k : Int) < es.length := by omega
      have HF := hid_mk (show ER w1 wr (.slice va n vc) ps ∧ ps.map (·.1) = fromL b t es i most from ⟨H.out.1, by
        have hke : k = es.length := by omega
        rw [H.out.2.2.1]
        cases hr : rightV b t es with
        | false =>
          have hk0 : k = 0 := by
            rcases Nat.eq_zero_or_pos k with h | h
            · exact h
            · rw [H.out.2.2.2.2 h] at hr; cases hr
          rw [fromL_bad hr, hk0]
          simp
        | true =>
          rw [fromL_ok hr, ← HP.out]
          have hl : (es.drop P).length = k - P := by simp; omega
          have := HN.out
          rcases H.out.2.2.2.1 with h | h
          · rw [List.take_of_length_le (by omega), List.take_of_length_le (by omega)]
          · rw [List.take_of_length_le (by omega), List.take_of_length_le (by omega)]⟩)
      have hke : k = es.length := by omega
      subst hke
      clear hlt hlt' hk
      gi_wp2_with fail
      refine ⟨trivial, ?_⟩
      gi_wp2_with fail
      refine bodyPost_ret (results_tmp rfl _ _ _) rfl ?_
      exact ⟨_, rfl, by rw [← HF.out.2]; exact HF.out.1.reads, grown_trans HA.out.2 HF.out.1.gr⟩
end Go.Proofs.Ytinpcpojadcegaa.W
